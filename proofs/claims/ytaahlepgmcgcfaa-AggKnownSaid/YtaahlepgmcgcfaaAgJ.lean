/- Layer 5, the program: aggregates joined. -/
import Derived.Test.YtaahlepgmcgcfaaAgP
import Derived.Test.YtaahlepgmcgcfaaCmpOr
import Derived.BigRegion
namespace Go.Proofs.Ytaahlepgmcgcfaa
open Go.ChangeShapes Go.WideShapes Go.ChangeAt Go.RowKit

theorem mnL_snoc (L : List Ag.A) (p : Ag.A) (x : Int) (h : x = if L = [] then p.lo else Ag.mn (L.map (·.lo))) : Ag.mn ((L ++ [p]).map (·.lo)) = imin x p.lo := by
  rw [List.map_append, List.map_singleton, Ag.mn_snoc, h]
  unfold imin
  by_cases hL : L = []
  · simp [hL]
  · simp [hL]
theorem mxL_snoc (L : List Ag.A) (p : Ag.A) (x : Int) (h : x = if L = [] then p.hi else Ag.mx (L.map (·.hi))) : Ag.mx ((L ++ [p]).map (·.hi)) = imax x p.hi := by
  rw [List.map_append, List.map_singleton, Ag.mx_snoc, h]
  unfold imax
  by_cases hL : L = []
  · simp [hL]
  · simp [hL]
/-- Two rows of numbers that grow, apart; the two blocks of the call. -/
structure Two (w : World) (T N : TypeId) (W : World) (v4 v5 : Value) (k4 k5 : Nat) (x4 x5 : List Int) (X Y : Array Value) : Prop where
  o4 : W.ownsRow (w.heap.size + 2) N 1 v4 k4 (i64s x4)
  o5 : W.ownsRow (w.heap.size + 2) N 1 v5 k5 (i64s x5)
  ap : v5.ownBlock = none ∨ v5.ownBlock ≠ v4.ownBlock
  bj : Blk W (w.heap.size + 1) T Y
  br : Blk W w.heap.size T X
  be : Below w.heap.size w W
  sz : w.heap.size + 2 ≤ W.heap.size
section
variable {w W W' : World} {T N : TypeId} {v4 v5 : Value} {k4 k5 : Nat} {x4 x5 : List Int} {X Y : Array Value}
theorem Two.alloc (h : Two w T N W v4 v5 k4 k5 x4 x5 X Y) (o : Obj) : Two w T N (W.alloc o) v4 v5 k4 k5 x4 x5 X Y :=
  ⟨h.o4.alloc _, h.o5.alloc _, h.ap, h.bj.below ((Below.refl _ _).alloc (Nat.le_refl _) o) (by have := h.sz; omega), h.br.below ((Below.refl _ _).alloc (Nat.le_refl _) o) (by have := h.sz; omega), h.be.alloc h.be.size _, by have := h.sz; simp; omega⟩
theorem Two.drewN (h : Two w T N W v4 v5 k4 k5 x4 x5 X Y) (n : Nat) : Two w T N (W.drewN n) v4 v5 k4 k5 x4 x5 X Y :=
  ⟨h.o4, h.o5, h.ap, h.bj, h.br, below_drewN h.be n, h.sz⟩
theorem Two.drew (h : Two w T N W v4 v5 k4 k5 x4 x5 X Y) : Two w T N W.drew v4 v5 k4 k5 x4 x5 X Y :=
  ⟨h.o4, h.o5, h.ap, h.bj, h.br, h.be.drew, h.sz⟩
theorem Two.below (h : Two w T N W v4 v5 k4 k5 x4 x5 X Y) (b : Below W.heap.size W W') : Two w T N W' v4 v5 k4 k5 x4 x5 X Y :=
  ⟨own_below h.o4 b, own_below h.o5 b, h.ap, h.bj.below b (by have := h.sz; omega), h.br.below b (by have := h.sz; omega), h.be.trans (b.mono h.be.size), by have := b.size; have := h.sz; omega⟩
theorem Two.setJ (h : Two w T N W v4 v5 k4 k5 x4 x5 X Y) (i : Nat) (u : Value) : Two w T N (W.setCell ⟨w.heap.size + 1, i, none⟩ u) v4 v5 k4 k5 x4 x5 X (Y.setIfInBounds i u) :=
  ⟨ownsRow_setCell_other h.o4 (fun e => by have := (h.o4.lt _ e).1; dsimp only at this; omega) _, ownsRow_setCell_other h.o5 (fun e => by have := (h.o5.lt _ e).1; dsimp only at this; omega) _, h.ap, h.bj.set_ _ _, h.br.far (by omega) _, h.be.setCell (p := ⟨w.heap.size + 1, i, none⟩) (Nat.le_succ _) _, by simpa [World.setCell] using h.sz⟩
theorem Two.grow4 (h : Two w T N W v4 v5 k4 k5 x4 x5 X Y) {v' : Value} {k' : Nat} {x' : List Int} {g H : Nat} (ho : W'.ownsRow (w.heap.size + 2) N 1 v' k' (i64s x')) (hg : W.grownBy W' v4.ownBlock) (hv : v'.ownBlock = some g) (hn : v4.ownBlock = some g ∨ g = H) (hH : W.heap.size = H) : Two w T N W' v' v5 k' k5 x' x5 X Y :=
  have b := below_of_grown (B := w.heap.size + 2) h.sz hg (fun g hg => (h.o4.lt g hg).1)
  ⟨ho, h.o5.kept hg h.ap, near_apart h.o5 h.ap (fun k hk => by rw [hv] at hk; injection hk with hk; subst hk; rcases hn with hn | hn; exact .inl hn; exact .inr (by omega)), h.bj.below b (by omega), h.br.below b (by omega), h.be.trans (b.mono (by omega)), by have := b.size; have := h.sz; omega⟩
theorem Two.grow5 (h : Two w T N W v4 v5 k4 k5 x4 x5 X Y) {v' : Value} {k' : Nat} {x' : List Int} {g H : Nat} (ho : W'.ownsRow (w.heap.size + 2) N 1 v' k' (i64s x')) (hg : W.grownBy W' v5.ownBlock) (hv : v'.ownBlock = some g) (hn : v5.ownBlock = some g ∨ g = H) (hH : W.heap.size = H) : Two w T N W' v4 v' k4 k' x4 x' X Y :=
  have b := below_of_grown (B := w.heap.size + 2) h.sz hg (fun g hg => (h.o5.lt g hg).1)
  ⟨h.o4.kept hg (ap_symm h.ap), ho, ap_symm (near_apart h.o4 (ap_symm h.ap) (fun k hk => by rw [hv] at hk; injection hk with hk; subst hk; rcases hn with hn | hn; exact .inl hn; exact .inr (by omega))), h.bj.below b (by omega), h.br.below b (by omega), h.be.trans (b.mono (by omega)), by have := b.size; have := h.sz; omega⟩
end
theorem sumE_bd (s : Int) : -9223372036854775808 ≤ sumE s ∧ sumE s ≤ 9223372036854775807 := by
  unfold sumE
  split <;> decide
theorem ints_two (w : World) (t : TypeId) (a b : Int) (ha : -9223372036854775808 ≤ a ∧ a ≤ 9223372036854775807) (hb : -9223372036854775808 ≤ b ∧ b ≤ 9223372036854775807) : Ints (w.alloc (.cells #[.int .i64 a, .int .i64 b] t)) (w.heap.size + 1) (some ⟨w.heap.size, 0, none⟩) 2 [a, b] := by
  refine ⟨rfl, by simp; exact ⟨ha, hb⟩, fun _ => ⟨w.heap.size, 0, rfl, by omega, fun i hi => ?_⟩⟩
  rcases (by omega : i = 0 ∨ i = 1) with rfl | rfl
  · exact (Blk.new w t _).cell 0
  · exact (Blk.new w t _).cell 1
/-- What an append leaves of the blocks that it does not append to. -/
def Kept (W W' : World) (v : Value) : Prop := ∀ b, b < W.heap.size → v.ownBlock ≠ some b → W'.heap[b]? = W.heap[b]?
theorem Kept.blk {W W' : World} {v : Value} {b T : Nat} {cs : Array Value} (h : Kept W W' v) (hb : Blk W b T cs) (hv : v.ownBlock ≠ some b) : Blk W' b T cs := (h b hb.lt hv).trans hb
section
variable {w W : World} {T : TypeId} {v4 v5 : Value} {k4 k5 : Nat} {x4 x5 : List Int} {X Y : Array Value} {ops : Array Oper} {o : Oper} {a : Act} {K : Act → World → Prop} {Q : Exit → Act → World → Prop} {E : Prop}
theorem step_grow4 (hw : Region.wanted o (yielded ops a.tmps) = true) (s x : Operand) (ho : o.op = .call { callee := .builtin .append, args := #[s, x], argTypes := #[41, 41] })
    (h : Two w T 2 W v4 v5 k4 k5 x4 x5 X Y) (hk : k4 ≤ 1000000) (g : Nat) (u : Int) (hg : Blk W g 2 #[.int .i64 u]) (hs : a.eval s = v4) (hx : a.eval x = .slice (some ⟨g, 0, none⟩) 1 1)
    (next : ∀ A' c' W', Two w T 2 W' (.slice A' (k4 + 1) c') v5 (k4 + 1) k5 (x4 ++ [u]) x5 X Y → Kept W W' v4 → W.heap.size ≤ W'.heap.size → K (a.put o.dst (.slice A' (k4 + 1) c')) W') :
    if Region.wanted o (yielded ops a.tmps) = true then Oper.wp Try.prog o a W K Q else E := by
  obtain ⟨i0, hi, hz0, hz1, hz2⟩ := info_parts Try.info2
  refine step_append_here hw s x 41 ho (w.heap.size + 2) 2 i0 (.int .i64 0) 1 8 Try.underlying41 hi hz0 hz1 hz2 rfl (by decide) v4 k4 (i64s x4) hs h.o4 ⟨g, 0, none⟩ 1 1 [.int .i64 u] hx rfl (fun j z hz => by rw [add_at, Nat.zero_add, hg.cell]; simpa using hz) (by simp [Value.oneCell']) (by decide) (by unfold maxLen; omega) (by omega) h.sz _ rfl ?_
  intro g' cap W' hown hgrow hn hlt
  refine next _ _ _ (h.grow4 (by rw [show i64s (x4 ++ [u]) = i64s x4 ++ [.int .i64 u] by simp [i64s]]; exact hown) hgrow rfl hn rfl) (fun b hb hv => hgrow.block b hb (fun e => hv e.symm)) hgrow.size
theorem step_grow5 (hw : Region.wanted o (yielded ops a.tmps) = true) (s x : Operand) (ho : o.op = .call { callee := .builtin .append, args := #[s, x], argTypes := #[41, 41] })
    (h : Two w T 2 W v4 v5 k4 k5 x4 x5 X Y) (hk : k5 ≤ 1000000) (g : Nat) (u : Int) (hg : Blk W g 2 #[.int .i64 u]) (hs : a.eval s = v5) (hx : a.eval x = .slice (some ⟨g, 0, none⟩) 1 1)
    (next : ∀ A' c' W', Two w T 2 W' v4 (.slice A' (k5 + 1) c') k4 (k5 + 1) x4 (x5 ++ [u]) X Y → Kept W W' v5 → W.heap.size ≤ W'.heap.size → K (a.put o.dst (.slice A' (k5 + 1) c')) W') :
    if Region.wanted o (yielded ops a.tmps) = true then Oper.wp Try.prog o a W K Q else E := by
  obtain ⟨i0, hi, hz0, hz1, hz2⟩ := info_parts Try.info2
  refine step_append_here hw s x 41 ho (w.heap.size + 2) 2 i0 (.int .i64 0) 1 8 Try.underlying41 hi hz0 hz1 hz2 rfl (by decide) v5 k5 (i64s x5) hs h.o5 ⟨g, 0, none⟩ 1 1 [.int .i64 u] hx rfl (fun j z hz => by rw [add_at, Nat.zero_add, hg.cell]; simpa using hz) (by simp [Value.oneCell']) (by decide) (by unfold maxLen; omega) (by omega) h.sz _ rfl ?_
  intro g' cap W' hown hgrow hn hlt
  refine next _ _ _ (h.grow5 (by rw [show i64s (x5 ++ [u]) = i64s x5 ++ [.int .i64 u] by simp [i64s]]; exact hown) hgrow rfl hn rfl) (fun b hb hv => hgrow.block b hb (fun e => hv e.symm)) hgrow.size
end
set_option maxRecDepth 100000 in
set_option maxHeartbeats 4000000 in
theorem join_any (n c B : Nat) (A : Option Addr) (l : List Ag.A) (w : World) (h : Aggs w B A n l) (hB : B ≤ w.heap.size) (hn : n ≤ 1000) :
    Calls Try.prog 21 #[.slice A n c] w (AggE w (Ag.join l)) := by
  obtain ⟨i0, hi, hz0, hz1, hz2⟩ := info_parts Try.info2
  have HI := Lib.hid (And.intro hi (And.intro hz0 (And.intro hz1 hz2)))
  have HP := Lib.hid h
  obtain ⟨w0, hw0, h0⟩ := two_blk w 33 (.int .i64 0) (.int .i64 0) (.int .i64 0) (.int .i64 0) (.int .i64 0) (.int .i64 0) (.int .i64 0) (.int .i64 0)
  have HZ : Hid (Two w 33 2 w0 (.slice none 0 0) (.slice none 0 0) 0 0 [] [] #[.int .i64 0, .int .i64 0, .int .i64 0, .int .i64 0] #[.int .i64 0, .int .i64 0, .int .i64 0, .int .i64 0]) := Lib.hid ⟨own_nil _ _ _ _, own_nil _ _ _ _, .inl rfl, h0.2.1, h0.1, h0.2.2.1, by rw [h0.2.2.2]; exact Nat.le_refl _⟩
  have g1 := pagg_guard
  clear h hi hz0 hz1 hz2 h0
  go_enter Try.func21, Try.ntmps21
  go_wp2_with fail
  clear hw0
  go_loopw [4, 5, 15] (fun r s i wr => ∃ (j k : Nat) (L : List Ag.A) (x y : Int), j ≤ n ∧ k ≤ j ∧ i = .int .i64 (j : Int) ∧ Ag.live (l.take j) = L ∧ k = L.length ∧ Two w 33 2 wr r s k k (L.map (·.c)) (L.map (·.s)) #[.int .i64 0, .int .i64 0, .int .i64 0, .int .i64 0] #[.int .i64 x, .int .i64 y, .int .i64 (Ag.mn (L.map (·.lo))), .int .i64 (Ag.mx (L.map (·.hi)))]) (fun _ _ i _ => n - (intOf i).toNat)
  case atStart => exact ⟨0, 0, [], 0, 0, by omega, by omega, rfl, rfl, rfl, HZ.out⟩
  case round =>
    obtain ⟨j, k, L, x, y, hj, hkj, rfl, hL, hK, hS⟩ := hrel
    obtain ⟨A4, d4, rfl⟩ := own_slice hS.o4
    obtain ⟨A5, d5, rfl⟩ := own_slice hS.o5
    have HS := Lib.hid hS
    have HK := Lib.hid hK
    clear hK hS
    by_cases hltj : j < n
    · obtain ⟨b, off, rfl, hb, hc⟩ := HP.out.2.2 (by omega)
      have hcj := hc j hltj
      have hst := asnoc_at l j (by rw [HP.out.1]; exact hltj)
      generalize l.getD j default = p at hcj hst
      have hlv : Ag.live (l.take (j + 1)) = if Ag.blank p = true then L else L ++ [p] := by rw [hst, live_snoc, hL]
      have i1 : (0 : Int) ≤ j := by omega
      have i2 : (j : Int) < n := by omega
      have hz : b < w.heap.size := by omega
      have c1 := (HS.out.be.cell (p := ⟨b, off + j * 4, none⟩) hz).trans hcj.1
      have c2 := (HS.out.be.cell (p := ⟨b, off + j * 4 + 1, none⟩) hz).trans hcj.2.1
      have c3 := (HS.out.be.cell (p := ⟨b, off + j * 4 + 2, none⟩) hz).trans hcj.2.2.1
      have c4 := (HS.out.be.cell (p := ⟨b, off + j * 4 + 3, none⟩) hz).trans hcj.2.2.2
      obtain ⟨wa, hwa⟩ : ∃ wa, wr.alloc (.cells #[.int .i64 p.c, .int .i64 p.s, .int .i64 p.lo, .int .i64 p.hi] 33) = wa := ⟨_, rfl⟩
      have hka := Blk.new wr 33 #[.int .i64 p.c, .int .i64 p.s, .int .i64 p.lo, .int .i64 p.hi]
      have hsa := HS.out.alloc (.cells #[.int .i64 p.c, .int .i64 p.s, .int .i64 p.lo, .int .i64 p.hi] 33)
      have hza : (wr.alloc (.cells #[.int .i64 p.c, .int .i64 p.s, .int .i64 p.lo, .int .i64 p.hi] 33)).heap.size = wr.heap.size + 1 := by simp
      rw [hwa] at hka hsa hza
      have a1 := hka.cell 0
      have a2 := hka.cell 1
      have a3 := hka.cell 2
      have a4 := hka.cell 3
      have HA := Lib.hid (And.intro hka (And.intro hsa hza))
      have hbn := fun W => blank_any p W
      clear hc hcj hst hL hka hsa hza
      by_cases hbl : Ag.blank p = true
      · rw [if_pos hbl] at hlv
        rw [hbl] at hbn
        have HBN := Lib.hid hbn
        have HLV := Lib.hid hlv
        clear hbn hlv hbl
        go_wp2_with (go_at_call 37; (with_reducible refine (HBN.out _).mono ?_); rintro e w1 ⟨rfl, b1⟩; have HB1 := Lib.hid (HA.out.2.1.below b1); clear b1)
        go_roundw
        case measure => simp [intOf]; omega
        case rel => exact ⟨j + 1, k, L, x, y, by omega, by omega, by go_num, HLV.out, HK.out, HB1.out⟩
      · rw [if_neg hbl] at hlv
        rw [(Bool.not_eq_true _).mp hbl] at hbn
        have HBN := Lib.hid hbn
        have HLV := Lib.hid hlv
        clear hbn hlv hbl
        by_cases hk0 : L = []
        · have j2 : ((k : Int) == 0) = true := by rw [beq_iff_eq, HK.out, hk0]; rfl
          have HL0 := Lib.hid hk0
          clear hk0
          go_wp2_with (go_at_call 37; (with_reducible refine (HBN.out _).mono ?_); rintro e w1 ⟨rfl, b1⟩; have hB1 := HA.out.2.1.below b1; have hk1 := HA.out.1.below b1 (by rw [HA.out.2.2]; omega); clear c1 c2 c3 c4 a1 a2 a3 a4; have a1 := hk1.cell 0; have a2 := hk1.cell 1; have a3 := hk1.cell 2; have a4 := hk1.cell 3; have q1 := hB1.bj.cell 0; have q2 := hB1.bj.cell 1; have q3 := hB1.bj.cell 2; have q4 := hB1.bj.cell 3; have q5 := hB1.bj.frozen 0; have q6 := hB1.bj.frozen 1; have q7 := hB1.bj.frozen 2; have q8 := hB1.bj.frozen 3; have HB1 := Lib.hid (And.intro hB1 hk1); clear b1 hB1 hk1)
          have h2 := (((HB1.out.1.setJ 0 (.int .i64 p.c)).setJ 1 (.int .i64 p.s)).setJ 2 (.int .i64 p.lo)).setJ 3 (.int .i64 p.hi)
          have k2 := (((HB1.out.2.far (b := w.heap.size + 1) (o := 0) (by have := HS.out.sz; omega) (.int .i64 p.c)).far (b := w.heap.size + 1) (o := 1) (by have := HS.out.sz; omega) (.int .i64 p.s)).far (b := w.heap.size + 1) (o := 2) (by have := HS.out.sz; omega) (.int .i64 p.lo)).far (b := w.heap.size + 1) (o := 3) (by have := HS.out.sz; omega) (.int .i64 p.hi)
          obtain ⟨w2, hw2⟩ : ∃ w2, (((w1.setCell ⟨w.heap.size + 1, 0, none⟩ (.int .i64 p.c)).setCell ⟨w.heap.size + 1, 1, none⟩ (.int .i64 p.s)).setCell ⟨w.heap.size + 1, 2, none⟩ (.int .i64 p.lo)).setCell ⟨w.heap.size + 1, 3, none⟩ (.int .i64 p.hi) = w2 := ⟨_, rfl⟩
          rw [hw2] at h2 k2 ⊢
          obtain ⟨x', hx'⟩ : ∃ x', p.c = x' := ⟨_, rfl⟩
          obtain ⟨y', hy'⟩ : ∃ y', p.s = y' := ⟨_, rfl⟩
          obtain ⟨lo', hlo⟩ : ∃ lo', p.lo = lo' := ⟨_, rfl⟩
          obtain ⟨hi', hhi⟩ : ∃ hi', p.hi = hi' := ⟨_, rfl⟩
          have E1 := Lib.hid (mnL_snoc L p lo' (by rw [← hlo, if_pos HL0.out]))
          have E2 := Lib.hid (mxL_snoc L p hi' (by rw [← hhi, if_pos HL0.out]))
          have h3 : Two w 33 2 w2 (.slice A4 k d4) (.slice A5 k d5) k k (L.map (·.c)) (L.map (·.s)) #[.int .i64 0, .int .i64 0, .int .i64 0, .int .i64 0] #[.int .i64 x', .int .i64 y', .int .i64 lo', .int .i64 hi'] := by rw [← hx', ← hy', ← hlo, ← hhi]; exact h2
          clear a1 a2 a3 a4 q1 q2 q3 q4 q5 q6 q7 q8 hw2 hlo hhi hx' hy' h2
          have q2 := h3.bj.cell 2
          have q3 := h3.bj.cell 3
          have q6 := h3.bj.frozen 2
          have q7 := h3.bj.frozen 3
          have a3 := k2.cell 2
          have a4 := k2.cell 3
          have H3 := Lib.hid (And.intro h3 k2)
          clear h3 k2
          have hmn := fun W => imin_run lo' p.lo W
          have hmx := fun W => imax_run hi' p.hi W
          go_region
          go_wp2_with fail
          clear a3 a4 q2 q3 q6 q7 hmn hmx
          have h4 := ((H3.out.1.setJ 2 (.int .i64 (imin lo' p.lo))).setJ 3 (.int .i64 (imax hi' p.hi))).drew
          have k4 := (H3.out.2.far (b := w.heap.size + 1) (o := 2) (by have := HS.out.sz; omega) (.int .i64 (imin lo' p.lo))).far (b := w.heap.size + 1) (o := 3) (by have := HS.out.sz; omega) (.int .i64 (imax hi' p.hi))
          have k4 := blk_drewN k4 1
          obtain ⟨w3, hw3⟩ : ∃ w3, ((w2.setCell ⟨w.heap.size + 1, 2, none⟩ (.int .i64 (imin lo' p.lo))).setCell ⟨w.heap.size + 1, 3, none⟩ (.int .i64 (imax hi' p.hi))).drew = w3 := ⟨_, rfl⟩
          rw [hw3] at h4 ⊢
          have k4' : Blk w3 wr.heap.size 33 #[.int .i64 p.c, .int .i64 p.s, .int .i64 p.lo, .int .i64 p.hi] := by rw [← hw3]; exact k4
          clear hw3 k4
          have q1 := k4'.cell 0
          have q2 := k4'.cell 1
          have H4 := Lib.hid (And.intro h4 k4')
          clear h4 k4'
          obtain ⟨o1, ho1⟩ : ∃ o1, Obj.cells #[.int .i64 p.c] 2 = o1 := ⟨_, rfl⟩
          obtain ⟨o2, ho2⟩ : ∃ o2, Obj.cells #[.int .i64 p.s] 2 = o2 := ⟨_, rfl⟩
          have hsz1 : (w3.alloc o1).heap.size = w3.heap.size + 1 := by simp
          have hsz2 : (w3.alloc o2).heap.size = w3.heap.size + 1 := by simp
          have hb1 := fun (W : World) => (show Blk (W.alloc o1) W.heap.size 2 #[.int .i64 p.c] by rw [← ho1]; exact Blk.new W _ _)
          have hb2 := fun (W : World) => (show Blk (W.alloc o2) W.heap.size 2 #[.int .i64 p.s] by rw [← ho2]; exact Blk.new W _ _)
          have hlt4 : ∀ g, wr.heap.size ≤ g → (Value.slice A4 k d4).ownBlock ≠ some g := fun g hg e => by have := (HS.out.o4.lt g e).2; omega
          have HLT5' : Hid (∀ g, wr.heap.size ≤ g → (Value.slice A5 k d5).ownBlock ≠ some g) := Lib.hid fun g hg e => by have := (HS.out.o5.lt g e).2; omega
          have hle3 : wr.heap.size < w3.heap.size := H4.out.2.lt
          have kA := H4.out.2.below ((Below.refl w3.heap.size w3).alloc (Nat.le_refl _) o1) hle3
          have kB := H4.out.2.below ((Below.refl w3.heap.size w3).alloc (Nat.le_refl _) o2) hle3
          have n12 : Blk ((w3.alloc o1).alloc o2) w3.heap.size 2 #[.int .i64 p.c] := (hb1 w3).below ((Below.refl _ _).alloc (Nat.le_refl _) o2) (hb1 w3).lt
          have n12' : Blk ((w3.alloc o1).alloc o2) (w3.heap.size + 1) 2 #[.int .i64 p.s] := by have := hb2 (w3.alloc o1); rw [hsz1] at this; exact this
          have n21 : Blk ((w3.alloc o2).alloc o1) w3.heap.size 2 #[.int .i64 p.s] := (hb2 w3).below ((Below.refl _ _).alloc (Nat.le_refl _) o1) (hb2 w3).lt
          have n21' : Blk ((w3.alloc o2).alloc o1) (w3.heap.size + 1) 2 #[.int .i64 p.c] := by have := hb1 (w3.alloc o2); rw [hsz2] at this; exact this
          have TA := Lib.hid (And.intro (H4.out.1.alloc o1).drew (show Blk (w3.alloc o1).drew w3.heap.size 2 #[.int .i64 p.c] from hb1 w3))
          have TAB := Lib.hid (And.intro ((H4.out.1.alloc o1).alloc o2).drew (And.intro (show Blk ((w3.alloc o1).alloc o2).drew w3.heap.size 2 #[.int .i64 p.c] from n12) (show Blk ((w3.alloc o1).alloc o2).drew (w3.heap.size + 1) 2 #[.int .i64 p.s] from n12')))
          have TBA := Lib.hid (And.intro ((H4.out.1.alloc o2).alloc o1).drew (And.intro (show Blk ((w3.alloc o2).alloc o1).drew (w3.heap.size + 1) 2 #[.int .i64 p.c] from n21') (show Blk ((w3.alloc o2).alloc o1).drew w3.heap.size 2 #[.int .i64 p.s] from n21)))
          have HLT := Lib.hid (And.intro hlt4 (And.intro hle3 hb2))
          have KA := Lib.hid (And.intro kA kB)
          have P3 : Hid (∀ W, Below w3.heap.size w3 W → Blk W wr.heap.size 33 #[.int .i64 p.c, .int .i64 p.s, .int .i64 p.lo, .int .i64 p.hi]) := Lib.hid fun W hW => H4.out.2.below hW H4.out.2.lt
          clear hlt4 hle3 kA kB n12 n12' n21 n21' hb1 hb2 hsz1 hsz2 q1 q2
          go_region_held3 (fun W => W.cell? ⟨wr.heap.size, 0, none⟩ = some (.int .i64 p.c) ∧ W.cell? ⟨wr.heap.size, 1, none⟩ = some (.int .i64 p.s)) (first
            | exact ⟨H4.out.2.cell 0, H4.out.2.cell 1⟩
            | exact ⟨(P3.out _ ((Below.refl w3.heap.size w3).alloc (Nat.le_refl _) _).drew).cell 0, (P3.out _ ((Below.refl w3.heap.size w3).alloc (Nat.le_refl _) _).drew).cell 1⟩
            | exact ⟨(P3.out _ (((Below.refl w3.heap.size w3).alloc (Nat.le_refl _) _).alloc (by simp) _).drew).cell 0, (P3.out _ (((Below.refl w3.heap.size w3).alloc (Nat.le_refl _) _).alloc (by simp) _).drew).cell 1⟩
            | exact ⟨HQ.out.cell 0, HQ.out.cell 1⟩
            | exact ⟨(HQ.out.below ((Below.refl _ _).alloc (Nat.le_refl _) _) HQ.out.lt).cell 0, (HQ.out.below ((Below.refl _ _).alloc (Nat.le_refl _) _) HQ.out.lt).cell 1⟩) (first
            | (refine step_grow4 rfl (.tmp 37) (.tmp 40) rfl TA.out.1 (by omega) w3.heap.size p.c TA.out.2 rfl rfl ?_; intro A4' d4' w4 h5 hke hle; have HQ := Lib.hid (hke.blk (P3.out _ ((Below.refl w3.heap.size w3).alloc (Nat.le_refl _) o1).drew) (HLT.out.1 _ (Nat.le_refl _))); have UA := Lib.hid (And.intro (h5.alloc o2) (HLT.out.2.2 w4)); clear h5 hke hle)
            | (refine step_grow4 rfl (.tmp 37) (.tmp 40) rfl TAB.out.1 (by omega) w3.heap.size p.c TAB.out.2.1 rfl rfl ?_; intro A4' d4' w4 h5 hke hle; have HQ := Lib.hid (hke.blk (P3.out _ (((Below.refl w3.heap.size w3).alloc (Nat.le_refl _) o1).alloc (by simp) o2).drew) (HLT.out.1 _ (Nat.le_refl _))); have UAB := Lib.hid (And.intro h5 (hke.blk TAB.out.2.2 (HLT.out.1 _ (by have := HLT.out.2.1; omega)))); clear h5 hke hle)
            | (refine step_grow4 rfl (.tmp 37) (.tmp 40) rfl TBA.out.1 (by omega) (w3.heap.size + 1) p.c TBA.out.2.1 rfl rfl ?_; intro A4' d4' w4 h5 hke hle; have HQ := Lib.hid (hke.blk (P3.out _ (((Below.refl w3.heap.size w3).alloc (Nat.le_refl _) o2).alloc (by simp) o1).drew) (HLT.out.1 _ (Nat.le_refl _))); have UBA := Lib.hid (And.intro h5 (hke.blk TBA.out.2.2 (HLT.out.1 _ (by have := HLT.out.2.1; omega)))); clear h5 hke hle)
            | (refine step_grow5 rfl (.tmp 42) (.tmp 45) rfl UA.out.1 (by omega) w4.heap.size p.s UA.out.2 rfl rfl ?_; intro A5' d5' w5 h6 hke hle; have HQ := Lib.hid (hke.blk (HQ.out.below ((Below.refl _ _).alloc (Nat.le_refl _) o2) HQ.out.lt) (HLT5'.out _ (Nat.le_refl _))); have H6 := Lib.hid h6; clear h6 hke hle)
            | (refine step_grow5 rfl (.tmp 42) (.tmp 45) rfl UAB.out.1 (by omega) (w3.heap.size + 1) p.s UAB.out.2 rfl rfl ?_; intro A5' d5' w5 h6 hke hle; have HQ := Lib.hid (hke.blk HQ.out (HLT5'.out _ (Nat.le_refl _))); have H6 := Lib.hid h6; clear h6 hke hle)
            | (refine step_grow5 rfl (.tmp 42) (.tmp 45) rfl UBA.out.1 (by omega) w3.heap.size p.s UBA.out.2 rfl rfl ?_; intro A5' d5' w5 h6 hke hle; have HQ := Lib.hid (hke.blk HQ.out (HLT5'.out _ (Nat.le_refl _))); have H6 := Lib.hid h6; clear h6 hke hle))
          all_goals
            go_wp2_with fail
            go_roundw
            case measure => simp [intOf]; omega
            case rel => exact ⟨j + 1, k + 1, L ++ [p], x', y', by omega, by omega, by go_num, HLV.out, by rw [List.length_append, ← HK.out]; rfl, by rw [E1.out, E2.out, List.map_append, List.map_append]; exact H6.out⟩
        · have j2 : ((k : Int) == 0) = false := by
            rw [beq_eq_false_iff_ne, HK.out]
            intro e
            exact hk0 (List.eq_nil_of_length_eq_zero (by omega))
          have E1 := Lib.hid (mnL_snoc L p (Ag.mn (L.map (·.lo))) (by rw [if_neg hk0]))
          have E2 := Lib.hid (mxL_snoc L p (Ag.mx (L.map (·.hi))) (by rw [if_neg hk0]))
          clear hk0
          go_wp2_with (go_at_call 37; (with_reducible refine (HBN.out _).mono ?_); rintro e w2 ⟨rfl, b1⟩; have hB1 := HA.out.2.1.below b1; have hk1 := HA.out.1.below b1 (by rw [HA.out.2.2]; omega); clear c1 c2 c3 c4 a1 a2 a3 a4; have HB1 := Lib.hid (And.intro hB1 hk1); clear b1 hB1 hk1)
          obtain ⟨x', hx'⟩ : ∃ x', x = x' := ⟨_, rfl⟩
          obtain ⟨y', hy'⟩ : ∃ y', y = y' := ⟨_, rfl⟩
          obtain ⟨lo', hlo⟩ : ∃ lo', Ag.mn (L.map (·.lo)) = lo' := ⟨_, rfl⟩
          obtain ⟨hi', hhi⟩ : ∃ hi', Ag.mx (L.map (·.hi)) = hi' := ⟨_, rfl⟩
          rw [hlo] at E1
          rw [hhi] at E2
          have h3 : Two w 33 2 w2 (.slice A4 k d4) (.slice A5 k d5) k k (L.map (·.c)) (L.map (·.s)) #[.int .i64 0, .int .i64 0, .int .i64 0, .int .i64 0] #[.int .i64 x', .int .i64 y', .int .i64 lo', .int .i64 hi'] := by rw [← hx', ← hy', ← hlo, ← hhi]; exact HB1.out.1
          have k2 := HB1.out.2
          clear hlo hhi hx' hy'
          have q2 := h3.bj.cell 2
          have q3 := h3.bj.cell 3
          have q6 := h3.bj.frozen 2
          have q7 := h3.bj.frozen 3
          have a3 := k2.cell 2
          have a4 := k2.cell 3
          have H3 := Lib.hid (And.intro h3 k2)
          clear h3 k2
          have hmn := fun W => imin_run lo' p.lo W
          have hmx := fun W => imax_run hi' p.hi W
          go_region
          go_wp2_with fail
          clear a3 a4 q2 q3 q6 q7 hmn hmx
          have h4 := ((H3.out.1.setJ 2 (.int .i64 (imin lo' p.lo))).setJ 3 (.int .i64 (imax hi' p.hi))).drew
          have k4 := (H3.out.2.far (b := w.heap.size + 1) (o := 2) (by have := HS.out.sz; omega) (.int .i64 (imin lo' p.lo))).far (b := w.heap.size + 1) (o := 3) (by have := HS.out.sz; omega) (.int .i64 (imax hi' p.hi))
          have k4 := blk_drewN k4 1
          obtain ⟨w3, hw3⟩ : ∃ w3, ((w2.setCell ⟨w.heap.size + 1, 2, none⟩ (.int .i64 (imin lo' p.lo))).setCell ⟨w.heap.size + 1, 3, none⟩ (.int .i64 (imax hi' p.hi))).drew = w3 := ⟨_, rfl⟩
          rw [hw3] at h4 ⊢
          have k4' : Blk w3 wr.heap.size 33 #[.int .i64 p.c, .int .i64 p.s, .int .i64 p.lo, .int .i64 p.hi] := by rw [← hw3]; exact k4
          clear hw3 k4
          have q1 := k4'.cell 0
          have q2 := k4'.cell 1
          have H4 := Lib.hid (And.intro h4 k4')
          clear h4 k4'
          obtain ⟨o1, ho1⟩ : ∃ o1, Obj.cells #[.int .i64 p.c] 2 = o1 := ⟨_, rfl⟩
          obtain ⟨o2, ho2⟩ : ∃ o2, Obj.cells #[.int .i64 p.s] 2 = o2 := ⟨_, rfl⟩
          have hsz1 : (w3.alloc o1).heap.size = w3.heap.size + 1 := by simp
          have hsz2 : (w3.alloc o2).heap.size = w3.heap.size + 1 := by simp
          have hb1 := fun (W : World) => (show Blk (W.alloc o1) W.heap.size 2 #[.int .i64 p.c] by rw [← ho1]; exact Blk.new W _ _)
          have hb2 := fun (W : World) => (show Blk (W.alloc o2) W.heap.size 2 #[.int .i64 p.s] by rw [← ho2]; exact Blk.new W _ _)
          have hlt4 : ∀ g, wr.heap.size ≤ g → (Value.slice A4 k d4).ownBlock ≠ some g := fun g hg e => by have := (HS.out.o4.lt g e).2; omega
          have HLT5' : Hid (∀ g, wr.heap.size ≤ g → (Value.slice A5 k d5).ownBlock ≠ some g) := Lib.hid fun g hg e => by have := (HS.out.o5.lt g e).2; omega
          have hle3 : wr.heap.size < w3.heap.size := H4.out.2.lt
          have kA := H4.out.2.below ((Below.refl w3.heap.size w3).alloc (Nat.le_refl _) o1) hle3
          have kB := H4.out.2.below ((Below.refl w3.heap.size w3).alloc (Nat.le_refl _) o2) hle3
          have n12 : Blk ((w3.alloc o1).alloc o2) w3.heap.size 2 #[.int .i64 p.c] := (hb1 w3).below ((Below.refl _ _).alloc (Nat.le_refl _) o2) (hb1 w3).lt
          have n12' : Blk ((w3.alloc o1).alloc o2) (w3.heap.size + 1) 2 #[.int .i64 p.s] := by have := hb2 (w3.alloc o1); rw [hsz1] at this; exact this
          have n21 : Blk ((w3.alloc o2).alloc o1) w3.heap.size 2 #[.int .i64 p.s] := (hb2 w3).below ((Below.refl _ _).alloc (Nat.le_refl _) o1) (hb2 w3).lt
          have n21' : Blk ((w3.alloc o2).alloc o1) (w3.heap.size + 1) 2 #[.int .i64 p.c] := by have := hb1 (w3.alloc o2); rw [hsz2] at this; exact this
          have TA := Lib.hid (And.intro (H4.out.1.alloc o1).drew (show Blk (w3.alloc o1).drew w3.heap.size 2 #[.int .i64 p.c] from hb1 w3))
          have TAB := Lib.hid (And.intro ((H4.out.1.alloc o1).alloc o2).drew (And.intro (show Blk ((w3.alloc o1).alloc o2).drew w3.heap.size 2 #[.int .i64 p.c] from n12) (show Blk ((w3.alloc o1).alloc o2).drew (w3.heap.size + 1) 2 #[.int .i64 p.s] from n12')))
          have TBA := Lib.hid (And.intro ((H4.out.1.alloc o2).alloc o1).drew (And.intro (show Blk ((w3.alloc o2).alloc o1).drew (w3.heap.size + 1) 2 #[.int .i64 p.c] from n21') (show Blk ((w3.alloc o2).alloc o1).drew w3.heap.size 2 #[.int .i64 p.s] from n21)))
          have HLT := Lib.hid (And.intro hlt4 (And.intro hle3 hb2))
          have KA := Lib.hid (And.intro kA kB)
          have P3 : Hid (∀ W, Below w3.heap.size w3 W → Blk W wr.heap.size 33 #[.int .i64 p.c, .int .i64 p.s, .int .i64 p.lo, .int .i64 p.hi]) := Lib.hid fun W hW => H4.out.2.below hW H4.out.2.lt
          clear hlt4 hle3 kA kB n12 n12' n21 n21' hb1 hb2 hsz1 hsz2 q1 q2
          go_region_held3 (fun W => W.cell? ⟨wr.heap.size, 0, none⟩ = some (.int .i64 p.c) ∧ W.cell? ⟨wr.heap.size, 1, none⟩ = some (.int .i64 p.s)) (first
            | exact ⟨H4.out.2.cell 0, H4.out.2.cell 1⟩
            | exact ⟨(P3.out _ ((Below.refl w3.heap.size w3).alloc (Nat.le_refl _) _).drew).cell 0, (P3.out _ ((Below.refl w3.heap.size w3).alloc (Nat.le_refl _) _).drew).cell 1⟩
            | exact ⟨(P3.out _ (((Below.refl w3.heap.size w3).alloc (Nat.le_refl _) _).alloc (by simp) _).drew).cell 0, (P3.out _ (((Below.refl w3.heap.size w3).alloc (Nat.le_refl _) _).alloc (by simp) _).drew).cell 1⟩
            | exact ⟨HQ.out.cell 0, HQ.out.cell 1⟩
            | exact ⟨(HQ.out.below ((Below.refl _ _).alloc (Nat.le_refl _) _) HQ.out.lt).cell 0, (HQ.out.below ((Below.refl _ _).alloc (Nat.le_refl _) _) HQ.out.lt).cell 1⟩) (first
            | (refine step_grow4 rfl (.tmp 37) (.tmp 40) rfl TA.out.1 (by omega) w3.heap.size p.c TA.out.2 rfl rfl ?_; intro A4' d4' w4 h5 hke hle; have HQ := Lib.hid (hke.blk (P3.out _ ((Below.refl w3.heap.size w3).alloc (Nat.le_refl _) o1).drew) (HLT.out.1 _ (Nat.le_refl _))); have UA := Lib.hid (And.intro (h5.alloc o2) (HLT.out.2.2 w4)); clear h5 hke hle)
            | (refine step_grow4 rfl (.tmp 37) (.tmp 40) rfl TAB.out.1 (by omega) w3.heap.size p.c TAB.out.2.1 rfl rfl ?_; intro A4' d4' w4 h5 hke hle; have HQ := Lib.hid (hke.blk (P3.out _ (((Below.refl w3.heap.size w3).alloc (Nat.le_refl _) o1).alloc (by simp) o2).drew) (HLT.out.1 _ (Nat.le_refl _))); have UAB := Lib.hid (And.intro h5 (hke.blk TAB.out.2.2 (HLT.out.1 _ (by have := HLT.out.2.1; omega)))); clear h5 hke hle)
            | (refine step_grow4 rfl (.tmp 37) (.tmp 40) rfl TBA.out.1 (by omega) (w3.heap.size + 1) p.c TBA.out.2.1 rfl rfl ?_; intro A4' d4' w4 h5 hke hle; have HQ := Lib.hid (hke.blk (P3.out _ (((Below.refl w3.heap.size w3).alloc (Nat.le_refl _) o2).alloc (by simp) o1).drew) (HLT.out.1 _ (Nat.le_refl _))); have UBA := Lib.hid (And.intro h5 (hke.blk TBA.out.2.2 (HLT.out.1 _ (by have := HLT.out.2.1; omega)))); clear h5 hke hle)
            | (refine step_grow5 rfl (.tmp 42) (.tmp 45) rfl UA.out.1 (by omega) w4.heap.size p.s UA.out.2 rfl rfl ?_; intro A5' d5' w5 h6 hke hle; have HQ := Lib.hid (hke.blk (HQ.out.below ((Below.refl _ _).alloc (Nat.le_refl _) o2) HQ.out.lt) (HLT5'.out _ (Nat.le_refl _))); have H6 := Lib.hid h6; clear h6 hke hle)
            | (refine step_grow5 rfl (.tmp 42) (.tmp 45) rfl UAB.out.1 (by omega) (w3.heap.size + 1) p.s UAB.out.2 rfl rfl ?_; intro A5' d5' w5 h6 hke hle; have HQ := Lib.hid (hke.blk HQ.out (HLT5'.out _ (Nat.le_refl _))); have H6 := Lib.hid h6; clear h6 hke hle)
            | (refine step_grow5 rfl (.tmp 42) (.tmp 45) rfl UBA.out.1 (by omega) w3.heap.size p.s UBA.out.2 rfl rfl ?_; intro A5' d5' w5 h6 hke hle; have HQ := Lib.hid (hke.blk HQ.out (HLT5'.out _ (Nat.le_refl _))); have H6 := Lib.hid h6; clear h6 hke hle))
          all_goals
            go_wp2_with fail
            go_roundw
            case measure => simp [intOf]; omega
            case rel => exact ⟨j + 1, k + 1, L ++ [p], x', y', by omega, by omega, by go_num, HLV.out, by rw [List.length_append, ← HK.out]; rfl, by rw [E1.out, E2.out, List.map_append, List.map_append]; exact H6.out⟩
    · obtain rfl : n = j := by omega
      have hLl : Ag.live l = L := by rw [← hL, List.take_of_length_le (by rw [HP.out.1]; exact Nat.le_refl _)]
      have okL : ∀ p ∈ L, aggOk p := by
        intro p hp
        rw [← hLl] at hp
        exact HP.out.2.1 p (List.mem_filter.1 hp).1
      have I4 := Lib.hid (Ints.of_own HS.out.o4 (by intro x hx; obtain ⟨p, hp, rfl⟩ := List.mem_map.1 hx; exact (okL p hp).1))
      have I5 := Lib.hid (Ints.of_own HS.out.o5 (by intro x hx; obtain ⟨p, hp, rfl⟩ := List.mem_map.1 hx; exact (okL p hp).2.1))
      have HJ0 : Ag.join l = if fitB (L.map (·.c)).sum && fitB (L.map (·.s)).sum then some ⟨(L.map (·.c)).sum, (L.map (·.s)).sum, Ag.mn (L.map (·.lo)), Ag.mx (L.map (·.hi))⟩ else none := by
        unfold Ag.join
        rw [hLl]
        rfl
      have hbo := HS.out.bj
      have hbr := HS.out.br
      obtain ⟨lo, hlo0⟩ : ∃ lo, Ag.mn (L.map (·.lo)) = lo := ⟨_, rfl⟩
      obtain ⟨hi, hhi0⟩ : ∃ hi, Ag.mx (L.map (·.hi)) = hi := ⟨_, rfl⟩
      rw [hlo0, hhi0] at hbo HJ0
      have HB := Lib.hid (And.intro hbo hbr)
      have HD := Lib.hid HS.out.be
      have hE := sumE_bd
      clear hbo hbr hlo0 hhi0 okL hLl hL
      cases h4 : fitB (L.map (·.c)).sum
      · rw [h4] at HJ0
        have e4 := sum_no h4
        have E4 := Lib.hid e4
        obtain ⟨C, hC⟩ : ∃ C, fitN (L.map (·.c)).sum = C := ⟨_, rfl⟩
        have F4 := Lib.hid hC
        clear e4 hC
        have ZB0 := hE (L.map (·.s)).sum
        obtain ⟨Z, hZ⟩ : ∃ Z, sumE (L.map (·.s)).sum = Z := ⟨_, rfl⟩
        rw [hZ] at ZB0
        have ZB := Lib.hid ZB0
        have E5 := Lib.hid hZ
        obtain ⟨S, hS⟩ : ∃ S, fitN (L.map (·.s)).sum = S := ⟨_, rfl⟩
        have F5 := Lib.hid hS
        replace HJ0 : Ag.join l = none := HJ0
        have HJ := Lib.hid HJ0
        have NZ : Hid (nz [30, Z] = 30) := Lib.hid rfl
        clear HJ0 h4 hZ hS ZB0 hE
        go_wp2_with (first
          | (go_at_call 34; (with_reducible refine (sum_any k d4 wr.heap.size A4 _ _ I4.out (Nat.le_refl _) (by omega)).mono ?_); rintro e w1 ⟨rfl, b1⟩; rw [F4.out, E4.out]; have I51 := Lib.hid (I5.out.below b1 (Nat.le_refl _)); have BB1 := Lib.hid b1; clear b1)
          | (go_at_call 34; (with_reducible refine (sum_any k d5 wr.heap.size A5 _ _ I51.out BB1.out.size (by omega)).mono ?_); rintro e w2 ⟨rfl, b2⟩; rw [F5.out, E5.out]; have BB2 := Lib.hid (below_next BB1.out b2); have KB := HB.out.1.below BB2.out HB.out.1.lt; have KR := HB.out.2.below BB2.out HB.out.2.lt; have kc0 := fun o => (blk_alloc KB o).cell 0; have kc1 := fun o => (blk_alloc KB o).cell 1; have kc2 := fun o => (blk_alloc KB o).cell 2; have kc3 := fun o => (blk_alloc KB o).cell 3; have kf0 := fun o => (blk_alloc KB o).frozen 0; have kf1 := fun o => (blk_alloc KB o).frozen 1; have gc0 := fun o => (blk_alloc KR o).cell 0; have gc1 := fun o => (blk_alloc KR o).cell 1; have gc2 := fun o => (blk_alloc KR o).cell 2; have gc3 := fun o => (blk_alloc KR o).cell 3; have gf0 := fun o => (blk_alloc KR o).frozen 0; have gf1 := fun o => (blk_alloc KR o).frozen 1; have gf2 := fun o => (blk_alloc KR o).frozen 2; have gf3 := fun o => (blk_alloc KR o).frozen 3; have KK := Lib.hid (And.intro KB KR); clear b2 KB KR)
          | (go_at_call 38; (with_reducible refine (orE_any 2 2 _ _ [30, Z] _ (ints_two _ _ _ _ (by decide) ZB.out) (by omega)).mono ?_); rintro e w3 ⟨rfl, rfl⟩; rw [NZ.out]))
        have HX := (below_next HD.out BB2.out).alloc (below_next HD.out BB2.out).size (.cells #[.int .i64 30, .int .i64 Z] 43)
        have hd := blk_four (blk_alloc KK.out.2 (.cells #[.int .i64 30, .int .i64 Z] 43)) (.int .i64 0) (.int .i64 0) (.int .i64 0) (.int .i64 0)
        have e0 := hd.cell 0
        have e1 := hd.cell 1
        have e2 := hd.cell 2
        have e3 := hd.cell 3
        refine bodyPost_ret (v := .tuple #[aggV Ag.none', .int .i64 30]) ?_ rfl ?_
        · simp [results, Try.results21, go_sem, aggV, Ag.none', e0, e1, e2, e3]
        · show AggE w (Ag.join l) _ _
          rw [HJ.out]
          exact ⟨below_four' HX (Nat.le_refl _) _ _ _ _, rfl⟩
      · cases h5 : fitB (L.map (·.s)).sum
        · rw [h4, h5] at HJ0
          obtain ⟨e4, f4⟩ := sum_yes h4
          have E4 := Lib.hid e4
          obtain ⟨C, hC⟩ : ∃ C, (L.map (·.c)).sum = C := ⟨_, rfl⟩
          have F4 := Lib.hid (f4.trans hC)
          clear e4 f4
          have e5 := sum_no h5
          have E5 := Lib.hid e5
          obtain ⟨S, hS⟩ : ∃ S, fitN (L.map (·.s)).sum = S := ⟨_, rfl⟩
          have F5 := Lib.hid hS
          clear e5 hS
          replace HJ0 : Ag.join l = none := HJ0
          have HJ := Lib.hid HJ0
          have NZ : Hid (nz [0, 30] = 30) := Lib.hid rfl
          have ZB : Hid (-9223372036854775808 ≤ (30 : Int) ∧ (30 : Int) ≤ 9223372036854775807) := Lib.hid (by decide)
          clear HJ0 h4 h5 hC hE
          go_wp2_with (first
            | (go_at_call 34; (with_reducible refine (sum_any k d4 wr.heap.size A4 _ _ I4.out (Nat.le_refl _) (by omega)).mono ?_); rintro e w1 ⟨rfl, b1⟩; rw [F4.out, E4.out]; have I51 := Lib.hid (I5.out.below b1 (Nat.le_refl _)); have BB1 := Lib.hid b1; clear b1)
            | (go_at_call 34; (with_reducible refine (sum_any k d5 wr.heap.size A5 _ _ I51.out BB1.out.size (by omega)).mono ?_); rintro e w2 ⟨rfl, b2⟩; rw [F5.out, E5.out]; have BB2 := Lib.hid (below_next BB1.out b2); have KB := HB.out.1.below BB2.out HB.out.1.lt; have KR := HB.out.2.below BB2.out HB.out.2.lt; have kc0 := fun o => (blk_alloc KB o).cell 0; have kc1 := fun o => (blk_alloc KB o).cell 1; have kc2 := fun o => (blk_alloc KB o).cell 2; have kc3 := fun o => (blk_alloc KB o).cell 3; have kf0 := fun o => (blk_alloc KB o).frozen 0; have kf1 := fun o => (blk_alloc KB o).frozen 1; have gc0 := fun o => (blk_alloc KR o).cell 0; have gc1 := fun o => (blk_alloc KR o).cell 1; have gc2 := fun o => (blk_alloc KR o).cell 2; have gc3 := fun o => (blk_alloc KR o).cell 3; have gf0 := fun o => (blk_alloc KR o).frozen 0; have gf1 := fun o => (blk_alloc KR o).frozen 1; have gf2 := fun o => (blk_alloc KR o).frozen 2; have gf3 := fun o => (blk_alloc KR o).frozen 3; have KK := Lib.hid (And.intro KB KR); clear b2 KB KR)
            | (go_at_call 38; (with_reducible refine (orE_any 2 2 _ _ [0, 30] _ (ints_two _ _ _ _ (by decide) ZB.out) (by omega)).mono ?_); rintro e w3 ⟨rfl, rfl⟩; rw [NZ.out]))
          have HX := (below_next HD.out BB2.out).alloc (below_next HD.out BB2.out).size (.cells #[.int .i64 0, .int .i64 30] 43)
          have hd := blk_four (blk_alloc KK.out.2 (.cells #[.int .i64 0, .int .i64 30] 43)) (.int .i64 0) (.int .i64 0) (.int .i64 0) (.int .i64 0)
          have e0 := hd.cell 0
          have e1 := hd.cell 1
          have e2 := hd.cell 2
          have e3 := hd.cell 3
          refine bodyPost_ret (v := .tuple #[aggV Ag.none', .int .i64 30]) ?_ rfl ?_
          · simp [results, Try.results21, go_sem, aggV, Ag.none', e0, e1, e2, e3]
          · show AggE w (Ag.join l) _ _
            rw [HJ.out]
            exact ⟨below_four' HX (Nat.le_refl _) _ _ _ _, rfl⟩
        · rw [h4, h5] at HJ0
          obtain ⟨e4, f4⟩ := sum_yes h4
          have E4 := Lib.hid e4
          obtain ⟨C, hC⟩ : ∃ C, (L.map (·.c)).sum = C := ⟨_, rfl⟩
          have F4 := Lib.hid (f4.trans hC)
          clear e4 f4
          obtain ⟨e5, f5⟩ := sum_yes h5
          have E5 := Lib.hid e5
          obtain ⟨S, hS⟩ : ∃ S, (L.map (·.s)).sum = S := ⟨_, rfl⟩
          have F5 := Lib.hid (f5.trans hS)
          clear e5 f5
          rw [hC, hS] at HJ0
          replace HJ0 : Ag.join l = some ⟨C, S, lo, hi⟩ := HJ0
          have HJ := Lib.hid HJ0
          have NZ : Hid (nz [0, 0] = 0) := Lib.hid rfl
          have ZB : Hid (-9223372036854775808 ≤ (0 : Int) ∧ (0 : Int) ≤ 9223372036854775807) := Lib.hid (by decide)
          clear HJ0 h4 h5 hC hS hE
          go_wp2_with (first
            | (go_at_call 34; (with_reducible refine (sum_any k d4 wr.heap.size A4 _ _ I4.out (Nat.le_refl _) (by omega)).mono ?_); rintro e w1 ⟨rfl, b1⟩; rw [F4.out, E4.out]; have I51 := Lib.hid (I5.out.below b1 (Nat.le_refl _)); have BB1 := Lib.hid b1; clear b1)
            | (go_at_call 34; (with_reducible refine (sum_any k d5 wr.heap.size A5 _ _ I51.out BB1.out.size (by omega)).mono ?_); rintro e w2 ⟨rfl, b2⟩; rw [F5.out, E5.out]; have BB2 := Lib.hid (below_next BB1.out b2); have KB := HB.out.1.below BB2.out HB.out.1.lt; have KR := HB.out.2.below BB2.out HB.out.2.lt; have kc0 := fun o => (blk_alloc KB o).cell 0; have kc1 := fun o => (blk_alloc KB o).cell 1; have kc2 := fun o => (blk_alloc KB o).cell 2; have kc3 := fun o => (blk_alloc KB o).cell 3; have kf0 := fun o => (blk_alloc KB o).frozen 0; have kf1 := fun o => (blk_alloc KB o).frozen 1; have gc0 := fun o => (blk_alloc KR o).cell 0; have gc1 := fun o => (blk_alloc KR o).cell 1; have gc2 := fun o => (blk_alloc KR o).cell 2; have gc3 := fun o => (blk_alloc KR o).cell 3; have gf0 := fun o => (blk_alloc KR o).frozen 0; have gf1 := fun o => (blk_alloc KR o).frozen 1; have gf2 := fun o => (blk_alloc KR o).frozen 2; have gf3 := fun o => (blk_alloc KR o).frozen 3; have KK := Lib.hid (And.intro KB KR); clear b2 KB KR)
            | (go_at_call 38; (with_reducible refine (orE_any 2 2 _ _ [0, 0] _ (ints_two _ _ _ _ (by decide) ZB.out) (by omega)).mono ?_); rintro e w3 ⟨rfl, rfl⟩; rw [NZ.out]))
          have HX := (below_next HD.out BB2.out).alloc (below_next HD.out BB2.out).size (.cells #[.int .i64 0, .int .i64 0] 43)
          have hd := blk_four (((blk_alloc KK.out.2 (.cells #[.int .i64 0, .int .i64 0] 43)).far (show w.heap.size + 1 ≠ w.heap.size by omega) (o := 0) (.int .i64 C)).far (show w.heap.size + 1 ≠ w.heap.size by omega) (o := 1) (.int .i64 S)) (.int .i64 C) (.int .i64 S) (.int .i64 lo) (.int .i64 hi)
          have e0 := hd.cell 0
          have e1 := hd.cell 1
          have e2 := hd.cell 2
          have e3 := hd.cell 3
          refine bodyPost_ret (v := .tuple #[aggV ⟨C, S, lo, hi⟩, .int .i64 0]) ?_ rfl ?_
          · simp [results, Try.results21, go_sem, aggV, e0, e1, e2, e3]
          · show AggE w (Ag.join l) _ _
            rw [HJ.out]
            exact ⟨below_four' ((HX.setCell (p := ⟨w.heap.size + 1, 0, none⟩) (Nat.le_succ _) (.int .i64 C)).setCell (p := ⟨w.heap.size + 1, 1, none⟩) (Nat.le_succ _) (.int .i64 S)) (Nat.le_refl _) _ _ _ _, rfl⟩
end Go.Proofs.Ytaahlepgmcgcfaa
