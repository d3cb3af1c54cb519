/- Layer 6, the program: the next operation, taken. -/
import Derived.Test.YtbcdacfmhjgfiaaEvT
namespace Go.Proofs.Ytbcdacfmhjgfiaa
open Go.ChangeShapes Go.WideShapes Go.ChangeAt Go.RowKit

theorem nxr_one (r : List Nat) : let f1 := Pk.tfails false r; let l1 := Pk.tleft false r; let f2 := Pk.fails f1 l1 8; let l2 := Pk.left f1 l1 8
    (Pk.fails f2 l2 8 = true → Ev.nx (1 :: r) = (20, Ev.none', 0)) ∧ (Pk.fails f2 l2 8 = false → (Ev.nx (1 :: r)).1 = 0 ∧ (Ev.nx (1 :: r)).2.1 = ⟨1, textOf (Pk.ttaken false r), Ev.sg (Pk.num (Pk.taken f1 l1 8)), Ev.sg (Pk.num (Pk.taken f2 l2 8))⟩ ∧ Pk.left f2 l2 8 = (1 :: r).drop (Ev.nx (1 :: r)).2.2) := by
  dsimp only
  unfold Ev.nx
  dsimp only
  rw [if_pos rfl]
  rcases hf : Pk.tfails false r with _ | _
  · rw [if_neg (by decide)]
    rcases Nat.lt_or_ge (Pk.tleft false r).length 8 with h8 | h8
    · have e2 : Pk.fails false (Pk.tleft false r) 8 = true := Pk.fails_yes (.inr h8)
      rw [e2, fails_true, if_pos (by omega)]
      simp
    · have e2 : Pk.fails false (Pk.tleft false r) 8 = false := Pk.fails_no h8
      rw [e2, Pk.left_no e2]
      have hl : ((Pk.tleft false r).drop 8).length = (Pk.tleft false r).length - 8 := List.length_drop
      rcases Nat.lt_or_ge (Pk.tleft false r).length 16 with h16 | h16
      · have e3 : Pk.fails false ((Pk.tleft false r).drop 8) 8 = true := Pk.fails_yes (.inr (by omega))
        rw [e3, if_pos h16]
        simp
      · have e3 : Pk.fails false ((Pk.tleft false r).drop 8) 8 = false := Pk.fails_no (by omega)
        rw [e3, if_neg (by omega)]
        refine ⟨by simp, fun _ => ⟨rfl, by rw [Pk.taken_no e2, Pk.taken_no e3], ?_⟩⟩
        · rw [Pk.left_no e3]
          show _ = (1 :: r).drop (1 + (2 + Pk.tlen false r) + 16)
          rw [Pk.tleft_no hf, List.drop_drop, List.drop_drop, show 1 + (2 + Pk.tlen false r) + 16 = (2 + Pk.tlen false r + 16) + 1 by omega, List.drop_succ_cons]
  · rw [if_pos rfl, fails_true, fails_true]
    simp
theorem nxr_two (r : List Nat) : (Pk.fails false r 8 = true → Ev.nx (2 :: r) = (20, Ev.none', 0)) ∧ (Pk.fails false r 8 = false → (Ev.nx (2 :: r)).1 = 0 ∧ (Ev.nx (2 :: r)).2.1 = ⟨2, ⟨#[]⟩, Ev.sg (Pk.num (Pk.taken false r 8)), 0⟩ ∧ Pk.left false r 8 = (2 :: r).drop (Ev.nx (2 :: r)).2.2) := by
  unfold Ev.nx
  dsimp only
  rw [if_neg (by decide), if_pos rfl]
  rcases Nat.lt_or_ge r.length 8 with h8 | h8
  · have e2 : Pk.fails false r 8 = true := Pk.fails_yes (.inr h8)
    rw [e2, if_pos h8]
    simp
  · have e2 : Pk.fails false r 8 = false := Pk.fails_no h8
    rw [e2, if_neg (by omega), Pk.taken_no e2, Pk.left_no e2]
    simp
theorem nxr_no {k : Nat} (r : List Nat) (h1 : k ≠ 1) (h2 : k ≠ 2) : Ev.nx (k :: r) = (80, Ev.none', 0) := by
  unfold Ev.nx
  dsimp only
  rw [if_neg h1, if_neg h2]
theorem err_cell (g : Nat) (f : Bool) (w : World) (h : w.cell? ⟨g, 1, none⟩ = some (.bool f)) :
    Calls Try.prog 45 #[.pointer (some ⟨g, 0, none⟩)] w fun e w' => e = .returned (.int .i64 (errOf f)) ∧ w = w' := by
  rcases Bool.eq_false_or_eq_true f with rfl | rfl
  · go_enter Try.func45, Try.ntmps45
    go_wp2_with fail
    go_ret
    exact ⟨rfl, rfl⟩
  · go_enter Try.func45, Try.ntmps45
    go_wp2_with fail
    go_ret
    exact ⟨rfl, rfl⟩
theorem cell_4s {w : World} {g : Nat} (x y z u : Value) (b o : Nat) (h : b ≠ g) : ((((w.setCell ⟨g, 0, none⟩ x).setCell ⟨g, 1, none⟩ y).setCell ⟨g, 2, none⟩ z).setCell ⟨g, 3, none⟩ u).cell? ⟨b, o, none⟩ = w.cell? ⟨b, o, none⟩ := by
  have hb : ∀ W : World, ∀ i v, (W.setCell ⟨g, i, none⟩ v).cell? ⟨b, o, none⟩ = W.cell? ⟨b, o, none⟩ := fun W i v => World.cell?_of_block (a := ⟨b, o, none⟩) (Below.heap_setCell W ⟨g, i, none⟩ v b h)
  rw [hb, hb, hb, hb]
theorem cell_4d {w : World} {g : Nat} (x y z u : Value) (b o : Nat) (h : b ≠ g) : ((((w.setCell ⟨g, 0, none⟩ x).setCell ⟨g, 1, none⟩ y).setCell ⟨g, 2, none⟩ z).setCell ⟨g, 3, none⟩ u).drew.cell? ⟨b, o, none⟩ = w.cell? ⟨b, o, none⟩ := by
  have hb : ∀ W : World, ∀ i v, (W.setCell ⟨g, i, none⟩ v).cell? ⟨b, o, none⟩ = W.cell? ⟨b, o, none⟩ := fun W i v => World.cell?_of_block (a := ⟨b, o, none⟩) (Below.heap_setCell W ⟨g, i, none⟩ v b h)
  show ((((w.setCell ⟨g, 0, none⟩ x).setCell ⟨g, 1, none⟩ y).setCell ⟨g, 2, none⟩ z).setCell ⟨g, 3, none⟩ u).cell? ⟨b, o, none⟩ = w.cell? ⟨b, o, none⟩
  rw [hb, hb, hb, hb]
theorem cell_4e {w : World} {g : Nat} (x y z u : Value) (b o : Nat) (h : b ≠ g) : ((((w.drew.setCell ⟨g, 0, none⟩ x).setCell ⟨g, 1, none⟩ y).setCell ⟨g, 2, none⟩ z).setCell ⟨g, 3, none⟩ u).cell? ⟨b, o, none⟩ = w.cell? ⟨b, o, none⟩ := by
  have hb : ∀ W : World, ∀ i v, (W.setCell ⟨g, i, none⟩ v).cell? ⟨b, o, none⟩ = W.cell? ⟨b, o, none⟩ := fun W i v => World.cell?_of_block (a := ⟨b, o, none⟩) (Below.heap_setCell W ⟨g, i, none⟩ v b h)
  rw [hb, hb, hb, hb]
  rfl
theorem cell_0d {w : World} {g : Nat} (b o : Nat) (_ : b ≠ g) : w.drew.cell? ⟨b, o, none⟩ = w.cell? ⟨b, o, none⟩ := rfl
theorem Rd.drew {w : World} {lo g : Nat} {l : List Nat} {f : Bool} (h : Rd w lo g l f) : Rd w.drew lo g l f := h.below (B := w.heap.size) (Below.refl _ _).drew h.here
theorem R3h {w : World} {lo g : Nat} {l : List Nat} {f : Bool} (h : Rd w lo g l f) : g < w.heap.size := h.here
def TkP (w : World) (lo g : Nat) (l : List Nat) (e : Ending) (w' : World) : Prop :=
  ∃ (o : Evo) (l' : List Nat) (f' : Bool), e = .returned (.tuple #[.agg #[.int .u8 (o.k : Int), .string o.s, .int .i64 o.t, .int .i64 o.v], .int .i64 (Ev.nx l).1]) ∧ Rd w' lo g l' f' ∧ w.grownBy w' (some g) ∧ ((Ev.nx l).1 = 0 → o = (Ev.nx l).2.1 ∧ l' = l.drop (Ev.nx l).2.2 ∧ f' = false)
set_option maxRecDepth 100000 in
set_option maxHeartbeats 4000000 in
theorem evTake_any (lo g : Nat) (l : List Nat) (w : World) (hr : Rd w lo g l false) : Calls Try.prog 30 #[.pointer (some ⟨g, 0, none⟩)] w (TkP w lo g l) := by
  have hg := hr.here
  have H0 := Lib.hid ((HeldR.start w g).new hg zOp 26)
  have R0 := Lib.hid (hr.below (w' := w.alloc (.cells zOp 26)) ((Below.refl w.heap.size w).alloc (Nat.le_refl _) _) hg)
  clear hr
  cases l with
  | nil =>
    go_enter Try.func30, Try.ntmps30
    go_wp2_with fail
    refine (left_any lo g _ _ _ R0.out).mono ?_
    rintro e w' ⟨rfl, rfl⟩
    go_wp2_with fail
    refine bodyPost_ret (v := .tuple #[opV 0 ⟨#[]⟩ 0 0, .int .i64 20]) ?_ rfl ⟨Ev.none', [], false, rfl, R0.out, H0.out.1, fun h => by cases h⟩
    simp [results, Try.results30, go_sem]
  | cons k r =>
    have hlen : ((k :: r).length : Int) ≠ 0 := by simp; omega
    obtain ⟨n, hn⟩ : ∃ n, (k :: r).length = n := ⟨_, rfl⟩
    have hn0 : ((n : Int) == 0) = false := by rw [beq_eq_false_iff_ne, ← hn]; exact hlen
    have HT := Lib.hid (And.intro (show Pk.taken false (k :: r) 1 = [k] from rfl) (And.intro (show Pk.left false (k :: r) 1 = r from rfl) (show Pk.fails false (k :: r) 1 = false from rfl)))
    have HNN := Lib.hid hn
    clear hlen hn
    go_enter Try.func30, Try.ntmps30
    go_wp2_with fail
    refine (left_any lo g _ _ _ R0.out).mono ?_
    rintro e w' ⟨rfl, rfl⟩
    rw [HNN.out]
    go_wp2_with fail
    refine (u8_any lo g _ _ _ R0.out).mono ?_
    rintro e w1 ⟨rfl, hr1, hg1⟩
    rw [HT.out.2.1, HT.out.2.2] at hr1
    rw [HT.out.1, show Pk.num [k] = k by simp [Pk.num]]
    have H1 := Lib.hid (H0.out.turn hg1)
    have R1 := Lib.hid hr1
    have hz1 := hr1.here
    clear hr1 hg1 hn0 HT HNN
    by_cases h1 : k = 1
    · subst h1
      have HN := Lib.hid (nxr_one r)
      rw [show ((1 : Nat) : Int) = 1 from rfl]
      go_wp2_with fail
      refine (kind_one _).mono ?_
      rintro e w2 ⟨rfl, b2⟩
      have H2 := Lib.hid ((H1.out.step b2).new hg #[fnV 35, fnV 36, fnV 37] 60)
      have hz2 : g < w2.heap.size := Nat.lt_of_lt_of_le hz1 b2.size
      have R2 := Lib.hid ((R1.out.below b2 hz1).below (w' := w2.alloc (.cells #[fnV 35, fnV 36, fnV 37] 60)) ((Below.refl w2.heap.size w2).alloc (Nat.le_refl _) _) hz2)
      clear b2
      go_upto_region 6 with (fail)
      obtain ⟨W2, hW⟩ : ∃ W, w2.alloc (.cells #[fnV 35, fnV 36, fnV 37] 60) = W := ⟨_, rfl⟩
      rw [hW] at H2 R2 ⊢
      obtain ⟨c0, c1, c2, -⟩ := cells3 H2.out.top
      clear hW
      go_wp2_with fail
      clear c0 c1 c2
      refine (takeEvent_any lo g _ _ _ R2.out).mono ?_
      rintro e w3 ⟨rfl, hr3, hg3⟩
      obtain ⟨l3, hl3⟩ : ∃ x, Pk.left (Pk.fails (Pk.tfails false r) (Pk.tleft false r) 8) (Pk.left (Pk.tfails false r) (Pk.tleft false r) 8) 8 = x := ⟨_, rfl⟩
      obtain ⟨f3, hf3⟩ : ∃ x, Pk.fails (Pk.fails (Pk.tfails false r) (Pk.tleft false r) 8) (Pk.left (Pk.tfails false r) (Pk.tleft false r) 8) 8 = x := ⟨_, rfl⟩
      rw [hl3, hf3] at hr3 HN
      obtain ⟨T, hT⟩ : ∃ x, textOf (Pk.ttaken false r) = x := ⟨_, rfl⟩
      obtain ⟨m1, hm1⟩ : ∃ x, sg (Pk.num (Pk.taken (Pk.tfails false r) (Pk.tleft false r) 8)) = x := ⟨_, rfl⟩
      obtain ⟨m2, hm2⟩ : ∃ x, sg (Pk.num (Pk.taken (Pk.fails (Pk.tfails false r) (Pk.tleft false r) 8) (Pk.left (Pk.tfails false r) (Pk.tleft false r) 8) 8)) = x := ⟨_, rfl⟩
      rw [hT, hm1, hm2]
      have HM := Lib.hid (And.intro hT (And.intro hm1 hm2))
      clear hT hm1 hm2
      have H3 := Lib.hid ((H2.out.turn hg3).new hg #[.int .u8 1, .string T, .int .i64 m1, .int .i64 m2] 26)
      have hz3 : g < w3.heap.size := R3h hr3
      have R3 := Lib.hid (hr3.below (w' := w3.alloc (.cells #[.int .u8 1, .string T, .int .i64 m1, .int .i64 m2] 26)) ((Below.refl w3.heap.size w3).alloc (Nat.le_refl _) _) hz3)
      have hne : w.heap.size ≠ w3.heap.size := by have := (H2.out.turn hg3).at_ (List.mem_cons_of_mem _ (List.mem_cons_self ..)) |>.lt; omega
      clear hr3 hg3 hl3 hf3
      go_upto_region 7 with (fail)
      obtain ⟨W3, hW⟩ : ∃ W, w3.alloc (.cells #[.int .u8 1, .string T, .int .i64 m1, .int .i64 m2] 26) = W := ⟨_, rfl⟩
      rw [hW] at H3 R3 ⊢
      clear hW
      have H4 := Lib.hid (H3.out.sub (l' := [(w.heap.size, 26, zOp), (w3.heap.size, 26, #[.int .u8 1, .string T, .int .i64 m1, .int .i64 m2])]) (by intro x hx; simp only [List.mem_cons, List.not_mem_nil, or_false] at hx ⊢; rcases hx with h | h <;> simp [h]))
      have hq : Hid (∀ W : World, (∀ b o, b ≠ w.heap.size → W.cell? ⟨b, o, none⟩ = W3.cell? ⟨b, o, none⟩) → (W.cell? ⟨w3.heap.size, 0, none⟩ = some (.int .u8 1) ∧ W.cell? ⟨w3.heap.size, 1, none⟩ = some (.string T) ∧ W.cell? ⟨w3.heap.size, 2, none⟩ = some (.int .i64 m1) ∧ W.cell? ⟨w3.heap.size, 3, none⟩ = some (.int .i64 m2)) ∧ W.cell? ⟨g, 1, none⟩ = some (.bool f3)) := Lib.hid fun W hW => by
        obtain ⟨⟨x0, x1, x2, x3⟩, -⟩ := cells4 H3.out.top
        obtain ⟨A, c, -, y, -⟩ := R3.out.cells
        exact ⟨⟨(hW _ _ hne.symm).trans x0, (hW _ _ hne.symm).trans x1, (hW _ _ hne.symm).trans x2, (hW _ _ hne.symm).trans x3⟩, (hW _ _ (by omega)).trans y⟩
      have HQ0 := Lib.hid (hq.out W3.drew (fun _ _ _ => rfl)).2
      obtain ⟨⟨d0, d1, d2, d3⟩, f0, f1, f2, f3'⟩ := cells4 (H4.out.top)
      have HE := Lib.hid (fun W (hW : W.cell? ⟨g, 1, none⟩ = some (.bool f3)) => err_cell g f3 W hW)
      go_wp2_with fail
      go_region_held3 (fun W => (W.cell? ⟨w3.heap.size, 0, none⟩ = some (.int .u8 1) ∧ W.cell? ⟨w3.heap.size, 1, none⟩ = some (.string T) ∧ W.cell? ⟨w3.heap.size, 2, none⟩ = some (.int .i64 m1) ∧ W.cell? ⟨w3.heap.size, 3, none⟩ = some (.int .i64 m2)) ∧ W.cell? ⟨g, 1, none⟩ = some (.bool f3)) (first | with_reducible exact hq.out _ cell_0d | with_reducible exact hq.out _ (cell_4d _ _ _ _) | with_reducible exact hq.out _ (cell_4e _ _ _ _) | with_reducible exact hq.out _ (cell_4s _ _ _ _)) (first
        | (go_at_call 45; (with_reducible refine (HE.out _ HQ0.out).mono ?_); rintro e V ⟨rfl, rfl⟩))
      go_wp2_with fail
      clear d0 d1 d2 d3 f0 f1 f2 f3'
      have H5 := (H4.out.four (by intro x hx; have h := List.mem_singleton.1 hx; rw [h]; exact hne.symm) (.int .u8 1) (.string T) (.int .i64 m1) (.int .i64 m2)).step (Below.refl _ _).drew
      have R5 := (R3.out.four hg (.int .u8 1) (.string T) (.int .i64 m1) (.int .i64 m2)).drew
      obtain ⟨W9, hW⟩ : ∃ W, ((((W3.setCell ⟨w.heap.size, 0, none⟩ (.int .u8 1)).setCell ⟨w.heap.size, 1, none⟩ (.string T)).setCell ⟨w.heap.size, 2, none⟩ (.int .i64 m1)).setCell ⟨w.heap.size, 3, none⟩ (.int .i64 m2)).drew = W := ⟨_, rfl⟩
      rw [hW] at H5 R5 ⊢
      have H5 := Lib.hid H5
      have R5 := Lib.hid R5
      clear hW
      obtain ⟨⟨c0, c1, c2, c3⟩, -⟩ := cells4 H5.out.top
      refine bodyPost_ret (v := .tuple #[opV 1 T m1 m2, .int .i64 (errOf f3)]) ?_ rfl ?_
      · simp [results, Try.results30, go_sem, c0, c1, c2, c3]
      · refine ⟨⟨1, T, m1, m2⟩, l3, f3, ?_, R5.out, H5.out.1, fun h0 => ?_⟩
        · cases f3
          · rw [(HN.out.2 rfl).1]; rfl
          · rw [HN.out.1 rfl]; rfl
        · cases f3
          · have h := HN.out.2 rfl
            rw [h.2.1]
            refine ⟨?_, h.2.2, rfl⟩
            rw [← HM.out.1, ← HM.out.2.1, ← HM.out.2.2]; rfl
          · rw [HN.out.1 rfl] at h0; cases h0
    by_cases h2 : k = 2
    · subst h2
      have HN := Lib.hid (nxr_two r)
      rw [show ((2 : Nat) : Int) = 2 from rfl]
      go_wp2_with fail
      refine (kind_two _).mono ?_
      rintro e w2 ⟨rfl, b2⟩
      have H2 := Lib.hid ((H1.out.step b2).new hg #[fnV 38, fnV 39, fnV 40] 60)
      have hz2 : g < w2.heap.size := Nat.lt_of_lt_of_le hz1 b2.size
      have R2 := Lib.hid ((R1.out.below b2 hz1).below (w' := w2.alloc (.cells #[fnV 38, fnV 39, fnV 40] 60)) ((Below.refl w2.heap.size w2).alloc (Nat.le_refl _) _) hz2)
      clear b2
      go_upto_region 6 with (fail)
      obtain ⟨W2, hW⟩ : ∃ W, w2.alloc (.cells #[fnV 38, fnV 39, fnV 40] 60) = W := ⟨_, rfl⟩
      rw [hW] at H2 R2 ⊢
      obtain ⟨c0, c1, c2, -⟩ := cells3 H2.out.top
      clear hW
      go_wp2_with fail
      clear c0 c1 c2
      refine (takeMark_any lo g _ _ _ R2.out).mono ?_
      rintro e w3 ⟨rfl, hr3, hg3⟩
      obtain ⟨l3, hl3⟩ : ∃ x, Pk.left false r 8 = x := ⟨_, rfl⟩
      obtain ⟨f3, hf3⟩ : ∃ x, Pk.fails false r 8 = x := ⟨_, rfl⟩
      rw [hl3, hf3] at hr3 HN
      obtain ⟨m1, hm1⟩ : ∃ x, sg (Pk.num (Pk.taken false r 8)) = x := ⟨_, rfl⟩
      rw [hm1]
      have HM := Lib.hid hm1
      clear hm1
      have H3 := Lib.hid ((H2.out.turn hg3).new hg #[.int .u8 2, .string ⟨#[]⟩, .int .i64 m1, .int .i64 0] 26)
      have hz3 : g < w3.heap.size := R3h hr3
      have R3 := Lib.hid (hr3.below (w' := w3.alloc (.cells #[.int .u8 2, .string ⟨#[]⟩, .int .i64 m1, .int .i64 0] 26)) ((Below.refl w3.heap.size w3).alloc (Nat.le_refl _) _) hz3)
      have hne : w.heap.size ≠ w3.heap.size := by have := (H2.out.turn hg3).at_ (List.mem_cons_of_mem _ (List.mem_cons_self ..)) |>.lt; omega
      clear hr3 hg3 hl3 hf3
      go_upto_region 7 with (fail)
      obtain ⟨W3, hW⟩ : ∃ W, w3.alloc (.cells #[.int .u8 2, .string ⟨#[]⟩, .int .i64 m1, .int .i64 0] 26) = W := ⟨_, rfl⟩
      rw [hW] at H3 R3 ⊢
      clear hW
      have H4 := Lib.hid (H3.out.sub (l' := [(w.heap.size, 26, zOp), (w3.heap.size, 26, #[.int .u8 2, .string ⟨#[]⟩, .int .i64 m1, .int .i64 0])]) (by intro x hx; simp only [List.mem_cons, List.not_mem_nil, or_false] at hx ⊢; rcases hx with h | h <;> simp [h]))
      have hq : Hid (∀ W : World, (∀ b o, b ≠ w.heap.size → W.cell? ⟨b, o, none⟩ = W3.cell? ⟨b, o, none⟩) → (W.cell? ⟨w3.heap.size, 0, none⟩ = some (.int .u8 2) ∧ W.cell? ⟨w3.heap.size, 1, none⟩ = some (.string ⟨#[]⟩) ∧ W.cell? ⟨w3.heap.size, 2, none⟩ = some (.int .i64 m1) ∧ W.cell? ⟨w3.heap.size, 3, none⟩ = some (.int .i64 0)) ∧ W.cell? ⟨g, 1, none⟩ = some (.bool f3)) := Lib.hid fun W hW => by
        obtain ⟨⟨x0, x1, x2, x3⟩, -⟩ := cells4 H3.out.top
        obtain ⟨A, c, -, y, -⟩ := R3.out.cells
        exact ⟨⟨(hW _ _ hne.symm).trans x0, (hW _ _ hne.symm).trans x1, (hW _ _ hne.symm).trans x2, (hW _ _ hne.symm).trans x3⟩, (hW _ _ (by omega)).trans y⟩
      have HQ0 := Lib.hid (hq.out W3.drew (fun _ _ _ => rfl)).2
      obtain ⟨⟨d0, d1, d2, d3⟩, f0, f1, f2, f3'⟩ := cells4 (H4.out.top)
      have HE := Lib.hid (fun W (hW : W.cell? ⟨g, 1, none⟩ = some (.bool f3)) => err_cell g f3 W hW)
      go_wp2_with fail
      go_region_held3 (fun W => (W.cell? ⟨w3.heap.size, 0, none⟩ = some (.int .u8 2) ∧ W.cell? ⟨w3.heap.size, 1, none⟩ = some (.string ⟨#[]⟩) ∧ W.cell? ⟨w3.heap.size, 2, none⟩ = some (.int .i64 m1) ∧ W.cell? ⟨w3.heap.size, 3, none⟩ = some (.int .i64 0)) ∧ W.cell? ⟨g, 1, none⟩ = some (.bool f3)) (first | with_reducible exact hq.out _ cell_0d | with_reducible exact hq.out _ (cell_4d _ _ _ _) | with_reducible exact hq.out _ (cell_4e _ _ _ _) | with_reducible exact hq.out _ (cell_4s _ _ _ _)) (first
        | (go_at_call 45; (with_reducible refine (HE.out _ HQ0.out).mono ?_); rintro e V ⟨rfl, rfl⟩))
      go_wp2_with fail
      clear d0 d1 d2 d3 f0 f1 f2 f3'
      have H5 := (H4.out.four (by intro x hx; have h := List.mem_singleton.1 hx; rw [h]; exact hne.symm) (.int .u8 2) (.string ⟨#[]⟩) (.int .i64 m1) (.int .i64 0)).step (Below.refl _ _).drew
      have R5 := (R3.out.four hg (.int .u8 2) (.string ⟨#[]⟩) (.int .i64 m1) (.int .i64 0)).drew
      obtain ⟨W9, hW⟩ : ∃ W, ((((W3.setCell ⟨w.heap.size, 0, none⟩ (.int .u8 2)).setCell ⟨w.heap.size, 1, none⟩ (.string ⟨#[]⟩)).setCell ⟨w.heap.size, 2, none⟩ (.int .i64 m1)).setCell ⟨w.heap.size, 3, none⟩ (.int .i64 0)).drew = W := ⟨_, rfl⟩
      rw [hW] at H5 R5 ⊢
      have H5 := Lib.hid H5
      have R5 := Lib.hid R5
      clear hW
      obtain ⟨⟨c0, c1, c2, c3⟩, -⟩ := cells4 H5.out.top
      refine bodyPost_ret (v := .tuple #[opV 2 ⟨#[]⟩ m1 0, .int .i64 (errOf f3)]) ?_ rfl ?_
      · simp [results, Try.results30, go_sem, c0, c1, c2, c3]
      · refine ⟨⟨2, ⟨#[]⟩, m1, 0⟩, l3, f3, ?_, R5.out, H5.out.1, fun h0 => ?_⟩
        · cases f3
          · rw [(HN.out.2 rfl).1]; rfl
          · rw [HN.out.1 rfl]; rfl
        · cases f3
          · have h := HN.out.2 rfl
            rw [h.2.1]
            refine ⟨?_, h.2.2, rfl⟩
            rw [← HM.out]; rfl
          · rw [HN.out.1 rfl] at h0; cases h0
    · have HK := Lib.hid (fun W => kind_no k W h1 h2)
      have HN := Lib.hid (nxr_no r h1 h2)
      clear h1 h2
      go_wp2_with fail
      refine (HK.out _).mono ?_
      rintro e w2 ⟨rfl, b2⟩
      have H2 := Lib.hid ((H1.out.step b2).new hg #[.nilFunc, .nilFunc, .nilFunc] 60)
      have hz2 : g < w2.heap.size := Nat.lt_of_lt_of_le hz1 b2.size
      have R2 := Lib.hid ((R1.out.below b2 hz1).below (w' := w2.alloc (.cells #[.nilFunc, .nilFunc, .nilFunc] 60)) ((Below.refl w2.heap.size w2).alloc (Nat.le_refl _) _) hz2)
      have hne : w.heap.size ≠ w2.heap.size := by have := (H1.out.step b2).top.lt; omega
      clear b2
      go_upto_region 5 with (fail)
      obtain ⟨W2, hW⟩ : ∃ W, w2.alloc (.cells #[.nilFunc, .nilFunc, .nilFunc] 60) = W := ⟨_, rfl⟩
      rw [hW] at H2 R2 ⊢
      clear hW
      have H4 := Lib.hid (H2.out.sub (l' := [(w.heap.size, 26, zOp)]) (by intro x hx; simp only [List.mem_cons, List.not_mem_nil, or_false] at hx ⊢; simp [hx]))
      obtain ⟨⟨d0, d1, d2, d3⟩, f0, f1, f2, f3'⟩ := cells4 (H4.out.top)
      go_wp2_with fail
      clear d0 d1 d2 d3 f0 f1 f2 f3'
      have H5 := Lib.hid (H4.out.four (by simp) (.int .u8 0) (.string ⟨#[]⟩) (.int .i64 0) (.int .i64 0))
      have R5 := Lib.hid (R2.out.four hg (.int .u8 0) (.string ⟨#[]⟩) (.int .i64 0) (.int .i64 0))
      obtain ⟨⟨c0, c1, c2, c3⟩, -⟩ := cells4 H5.out.top
      refine bodyPost_ret (v := .tuple #[opV 0 ⟨#[]⟩ 0 0, .int .i64 80]) ?_ rfl ?_
      · simp [results, Try.results30, go_sem, c0, c1, c2, c3]
      · refine ⟨Ev.none', r, false, ?_, R5.out, H5.out.1, fun h0 => ?_⟩
        · rw [HN.out]; rfl
        · rw [HN.out] at h0; cases h0
end Go.Proofs.Ytbcdacfmhjgfiaa
