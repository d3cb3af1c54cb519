/- Layer 6, the program: bytes parsed, as one operation. -/
import Derived.Test.YtbcdacfmhjgfiaaEvU
import Derived.Test.YtbcdacfmhjgfiaaOrE
namespace Go.Proofs.Ytbcdacfmhjgfiaa
open Go.ChangeShapes Go.WideShapes Go.ChangeAt Go.RowKit

def small (x : Int) : Prop := -9223372036854775808 ≤ x ∧ x ≤ 9223372036854775807
theorem nx_small (l : List Nat) : small (Ev.nx l).1 := by
  unfold Ev.nx small
  split
  · decide
  · split
    · split
      · decide
      · split
        · decide
        · exact ⟨by simp, by simp⟩
    · split
      · split
        · decide
        · exact ⟨by simp, by simp⟩
      · decide
theorem right_small (o : Evo) : small (Ev.right o) := by
  unfold Ev.right small
  split
  · decide
  · split
    · decide
    · split <;> decide
theorem done_small (f : Bool) (n : Nat) : small (doneOf f n) := by
  unfold doneOf small
  split
  · decide
  · split <;> decide
theorem Ints.made {w : World} {t : TypeId} {l : List Int} {n : Nat} (hn : l.length = n) (h : ∀ x ∈ l, small x) : Ints (w.alloc (.cells (i64s l).toArray t)) (w.heap.size + 1) (some ⟨w.heap.size, 0, none⟩) n l := by
  refine ⟨hn, h, fun _ => ⟨w.heap.size, 0, rfl, by omega, fun i hi => ?_⟩⟩
  rw [(Blk.new w t _).cell, List.getElem?_toArray, Nat.zero_add]
  exact i64s_at (by omega)
theorem Ints.three {w : World} {t : TypeId} {a b c : Int} (h1 : small a) (h2 : small b) (h3 : small c) : Ints (w.alloc (.cells #[.int .i64 a, .int .i64 b, .int .i64 c] t)) (w.heap.size + 1) (some ⟨w.heap.size, 0, none⟩) 3 [a, b, c] :=
  Ints.made (l := [a, b, c]) rfl (by intro x hx; simp at hx; rcases hx with rfl | rfl | rfl <;> assumption)
theorem Ints.two {w : World} {t : TypeId} {a b : Int} (h1 : small a) (h2 : small b) : Ints (w.alloc (.cells #[.int .i64 a, .int .i64 b] t)) (w.heap.size + 1) (some ⟨w.heap.size, 0, none⟩) 2 [a, b] :=
  Ints.made (l := [a, b]) rfl (by intro x hx; simp at hx; rcases hx with rfl | rfl <;> assumption)
theorem ps_of {b l' : List Nat} {o : Evo} {f' : Bool} (h : (Ev.nx b).1 = 0 → o = (Ev.nx b).2.1 ∧ l' = b.drop (Ev.nx b).2.2 ∧ f' = false) :
    Ev.ps b = (nz [(Ev.nx b).1, doneOf f' l'.length, Ev.right o], if nz [(Ev.nx b).1, doneOf f' l'.length, Ev.right o] = 0 then o else Ev.none') := by
  unfold Ev.ps nz
  by_cases h1 : (Ev.nx b).1 = 0
  · obtain ⟨rfl, rfl, rfl⟩ := h h1
    rw [if_neg (by simp [h1]), if_pos h1, List.length_drop]
    by_cases h2 : (Ev.nx b).2.2 < b.length
    · have e : doneOf false (b.length - (Ev.nx b).2.2) = 21 := by unfold doneOf; rw [if_neg (by decide), if_pos (by omega)]
      rw [if_pos h2, e]
      simp [nz]
    · have e : doneOf false (b.length - (Ev.nx b).2.2) = 0 := by unfold doneOf; rw [if_neg (by decide), if_neg (by omega)]
      rw [if_neg h2, e]
      by_cases h3 : Ev.right (Ev.nx b).2.1 = 0
      · simp [nz, h3]
      · simp [nz, h3]
  · rw [if_pos h1, if_neg h1, if_neg h1]
theorem Held.turn {w W W' : World} {g : Nat} {l : List (Nat × TypeId × Array Value)} (h : Held w W l) (hg : W.grownBy W' (some g)) (h1 : w.heap.size ≤ g) (h2 : ∀ x ∈ l, x.1 ≠ g) : Held w W' l :=
  ⟨h.1.grown hg h.1.size (fun k hk => by injection hk with hk; omega), fun x hx => (hg.block x.1 (h.2 x hx).lt (fun e => h2 x hx (by injection e))).trans (h.2 x hx)⟩
theorem Held.four {w W : World} {b T : Nat} {l : List (Nat × TypeId × Array Value)} {x y z u : Value} (h : Held w W ((b, T, #[x, y, z, u]) :: l)) (hb : w.heap.size ≤ b) (hl : ∀ x ∈ l, x.1 ≠ b) (x' y' z' u' : Value) : Held w ((((W.setCell ⟨b, 0, none⟩ x').setCell ⟨b, 1, none⟩ y').setCell ⟨b, 2, none⟩ z').setCell ⟨b, 3, none⟩ u') ((b, T, #[x', y', z', u']) :: l) :=
  (((h.set1 hb hl 0 x').set1 hb hl 1 y').set1 hb hl 2 z').set1 hb hl 3 u'
set_option maxRecDepth 100000 in
set_option maxHeartbeats 4000000 in
theorem pParse6_any (n c B : Nat) (A : Option Addr) (b : List Nat) (w : World) (hb : Bytes w B A n b) (hB : B ≤ w.heap.size) (hn : n ≤ 1000000) : Calls Try.prog 18 #[.slice A n c] w (PsP w (Ev.ps b)) := by
  have S0 := Lib.hid ((Held.start w).new zOp 26)
  have HB0 := Lib.hid (hb.below (w' := w.alloc (.cells zOp 26)) ((Below.refl w.heap.size w).alloc (Nat.le_refl _) _) hB)
  clear hb
  go_enter Try.func18, Try.ntmps18
  go_wp2_with fail
  refine (of_any n c B A b _ HB0.out (by simp; omega) hn).mono ?_
  rintro e w1 ⟨g, rfl, hr1, hg1, b1⟩
  have hg : w.heap.size < g := by simp at hg1; omega
  have S1 := Lib.hid (S0.out.step b1)
  obtain ⟨lo, hr1⟩ : ∃ lo, Rd w1 lo g b false := ⟨_, hr1⟩
  have R1 := Lib.hid hr1
  clear hg1 b1 S0 HB0 hB
  clear hr1
  go_wp2_with fail
  refine (evTake_any _ g b w1 R1.out).mono ?_
  rintro e w2 ⟨o, l', f', rfl, hr2, hg2, hnx⟩
  have S2 := (S1.out.turn hg2 (by omega) (by intro x hx; have h := List.mem_singleton.1 hx; rw [h]; show w.heap.size ≠ g; omega)).new #[.int .u8 (o.k : Int), .string o.s, .int .i64 o.t, .int .i64 o.v] 26
  have hz2 : g < w2.heap.size := hr2.here
  have R2 := hr2.below (w' := w2.alloc (.cells #[.int .u8 (o.k : Int), .string o.s, .int .i64 o.t, .int .i64 o.v] 26)) ((Below.refl w2.heap.size w2).alloc (Nat.le_refl _) _) hz2
  have HPS := Lib.hid (ps_of hnx)
  have HSM := Lib.hid (And.intro (nx_small b) (And.intro (done_small f' l'.length) (right_small o)))
  obtain ⟨e0, he0⟩ : ∃ x, (Ev.nx b).1 = x := ⟨_, rfl⟩
  obtain ⟨d0, hd0⟩ : ∃ x, doneOf f' l'.length = x := ⟨_, rfl⟩
  obtain ⟨r0, hr0⟩ : ∃ x, Ev.right o = x := ⟨_, rfl⟩
  have HD := fun W (h : Rd W lo g l' f') => done_any lo g l' f' W h
  have HR := fun W => pRight6_any o W
  rw [hd0] at HD
  rw [hr0] at HR
  rw [he0, hd0, hr0] at HPS HSM
  rw [he0]
  have HD' := Lib.hid HD
  have HR' := Lib.hid HR
  clear HD HR
  clear hr2 hg2 hnx S1 R1 he0 hd0 hr0
  go_upto_region 3 with (fail)
  obtain ⟨W2, hW⟩ : ∃ W, w2.alloc (.cells #[.int .u8 (o.k : Int), .string o.s, .int .i64 o.t, .int .i64 o.v] 26) = W := ⟨_, rfl⟩
  rw [hW] at S2 R2 ⊢
  have S2 := Lib.hid S2
  have R2 := Lib.hid R2
  have R2d := Lib.hid R2.out.drew
  clear hW
  have P : Hid (∀ W, Below W2.heap.size W2 W → W.cell? ⟨w2.heap.size, 0, none⟩ = some (.int .u8 (o.k : Int)) ∧ W.cell? ⟨w2.heap.size, 1, none⟩ = some (.string o.s) ∧ W.cell? ⟨w2.heap.size, 2, none⟩ = some (.int .i64 o.t) ∧ W.cell? ⟨w2.heap.size, 3, none⟩ = some (.int .i64 o.v)) := Lib.hid fun W hW => by
    have hk := (S2.out.step hW).at_ (List.mem_cons_self ..)
    exact ⟨hk.cell 0, hk.cell 1, hk.cell 2, hk.cell 3⟩
  have E0 : Hid (Below W2.heap.size W2 W2.drew) := Lib.hid (Below.refl _ _).drew
  go_wp2_with fail
  go_region_held3 (fun W => W.cell? ⟨w2.heap.size, 0, none⟩ = some (.int .u8 (o.k : Int)) ∧ W.cell? ⟨w2.heap.size, 1, none⟩ = some (.string o.s) ∧ W.cell? ⟨w2.heap.size, 2, none⟩ = some (.int .i64 o.t) ∧ W.cell? ⟨w2.heap.size, 3, none⟩ = some (.int .i64 o.v)) (first | with_reducible exact P.out _ E0.out | with_reducible exact P.out _ E1.out | with_reducible exact P.out _ E2.out | fail) (first
    | (go_at_call 32; (with_reducible refine (HD'.out _ R2d.out).mono ?_); rintro e V ⟨rfl, rfl⟩)
    | (go_at_call 15; (with_reducible refine (HR'.out _).mono ?_); rintro e V1 ⟨rfl, b5⟩; have E1 := Lib.hid (below_next E0.out b5); have E2 := Lib.hid (E1.out.alloc E1.out.size (.cells #[.int .i64 e0, .int .i64 d0, .int .i64 r0] 30)); clear b5)
    | (go_at_call 31; (with_reducible refine (orE_any 3 3 _ _ [e0, d0, r0] _ (Ints.three HSM.out.1 HSM.out.2.1 HSM.out.2.2) (by omega)).mono ?_); rintro e V ⟨rfl, rfl⟩))
  have S5 := S2.out.step E2.out
  obtain ⟨W5, hW⟩ : ∃ W, V1.alloc (.cells #[.int .i64 e0, .int .i64 d0, .int .i64 r0] 30) = W := ⟨_, rfl⟩
  rw [hW] at S5 ⊢
  have S5 := Lib.hid S5
  have S6 := Lib.hid (S5.out.sub (l' := [(w.heap.size, 26, zOp), (w2.heap.size, 26, #[.int .u8 (o.k : Int), .string o.s, .int .i64 o.t, .int .i64 o.v])]) (by intro x hx; simp only [List.mem_cons, List.not_mem_nil, or_false] at hx ⊢; rcases hx with h | h <;> simp [h]))
  obtain ⟨en, hen⟩ : ∃ x, nz [e0, d0, r0] = x := ⟨_, rfl⟩
  rw [hen] at HPS ⊢
  have hne : w2.heap.size ≠ w.heap.size := by omega
  have HNE := Lib.hid hne
  clear hW hen hne E1 E2 E0 P
  obtain ⟨⟨c0, c1, c2, c3⟩, -⟩ := cells4 S5.out.top
  obtain ⟨⟨d0, d1, d2, d3⟩, f0, f1, f2, f3⟩ := cells4 S6.out.top
  by_cases h1 : en = 0
  · subst h1
    have hps := HPS.out
    rw [if_pos rfl] at hps
    have HP := Lib.hid hps
    clear hps HPS
    go_wp2_with fail
    clear d0 d1 d2 d3 f0 f1 f2 f3 c0 c1 c2 c3
    have S7 := S6.out.four (Nat.le_refl _) (by intro x hx; have h := List.mem_singleton.1 hx; rw [h]; exact HNE.out) (.int .u8 (o.k : Int)) (.string o.s) (.int .i64 o.t) (.int .i64 o.v)
    obtain ⟨⟨c0, c1, c2, c3⟩, -⟩ := cells4 S7.top
    have S7 := Lib.hid S7
    refine bodyPost_ret (v := .tuple #[.agg #[.int .u8 (o.k : Int), .string o.s, .int .i64 o.t, .int .i64 o.v], .int .i64 0]) ?_ rfl ?_
    · simp [results, Try.results18, go_sem, c0, c1, c2, c3]
    · unfold PsP
      rw [HP.out]
      exact ⟨rfl, S7.out.1⟩
  · have hps := HPS.out
    rw [if_neg h1] at hps
    have HP := Lib.hid hps
    have i3 : (en != 0) = true := by rw [bne_iff_ne]; exact h1
    have i4 : (en == 0) = false := by rw [beq_eq_false_iff_ne]; exact h1
    clear hps HPS
    go_wp2_with fail
    clear d0 d1 d2 d3 f0 f1 f2 f3 c0 c1 c2 c3
    have S7 := S6.out.four (Nat.le_refl _) (by intro x hx; have h := List.mem_singleton.1 hx; rw [h]; exact HNE.out) (.int .u8 0) (.string ⟨#[]⟩) (.int .i64 0) (.int .i64 0)
    obtain ⟨⟨c0, c1, c2, c3⟩, -⟩ := cells4 S7.top
    have S7 := Lib.hid S7
    refine bodyPost_ret (v := .tuple #[.agg #[.int .u8 0, .string ⟨#[]⟩, .int .i64 0, .int .i64 0], .int .i64 en]) ?_ rfl ?_
    · simp [results, Try.results18, go_sem, c0, c1, c2, c3]
    · unfold PsP
      rw [HP.out]
      exact ⟨rfl, S7.out.1⟩
end Go.Proofs.Ytbcdacfmhjgfiaa
