/- Layer 7, the program: all that stands in bytes. -/
import Derived.Test.YtnokbnobnhkmgaaFrI
import Derived.Test.YtnokbnobnhkmgaaRefFrD
import Derived.Test.YtnokbnobnhkmgaaFrV
import Derived.BigRegion
namespace Go.Proofs.Ytnokbnobnhkmgaa
open Go.ChangeShapes Go.WideShapes Go.ChangeAt Go.RowKit
attribute [local go_sem] Oper.semAt_some

theorem Try.info44 : (Try.prog.info? 44).map (fun i => (i.zero, i.size, i.bytes)) = some (some (.agg #[.slice none 0 0, .int .i64 0]), 2, 32) := by kernel_rfl
set_option maxRecDepth 100000 in
theorem fstanding_any (n c : Nat) (A : Option Addr) (w : World) : Calls Try.prog 35 #[.slice A n c] w fun e w' => e = .returned (.func (.func 42) #[] #[.pointer (some ⟨w.heap.size, 0, none⟩)]) ∧ w' = w.alloc (.cells #[.slice A n c] 24) := by
  go_enter Try.func35, Try.ntmps35
  go_wp2_with fail
  go_ret
  exact ⟨rfl, rfl⟩
theorem kept_below {T : Nat} {K : Nat → Prop} {V V' : World} (h : Below V.heap.size V V') (hT : T + 3 ≤ V.heap.size) (hK : ∀ r, K r → r < T) : Rng.Kept T K V V' :=
  ⟨h.size, fun r hr => h.block r (by rcases hr with h | h; omega; have := hK r h; omega)⟩
theorem founds_abide {T B : Nat} {V : List Value} {L : List (List Nat × Int)} (hT : T + 3 ≤ B) : Rng.Abides T fun U => Founds U B V L := fun U U' r h hg h1 h2 =>
  ⟨h.1, fun i hi => by
    obtain ⟨a, m, c, e1, e2, e3, e4⟩ := h.2 i hi
    exact ⟨a, m, c, e1, e2, e3, Rng.abides_own hT U U' r e4 hg h1 h2⟩⟩
theorem blk_grown {V w2 : World} {o : Obj} {g : Nat} {t : TypeId} {cs : Array Value} {row : Option Nat} (h : Blk V g t cs) (hg : (V.alloc o).grownBy w2 row) (hr : ∀ r, row = some r → g < r) : Blk w2 g t cs :=
  (hg.block g (by have := h.lt; simp; omega) (fun e => by have := hr g e.symm; omega)).trans (h.below ((Below.refl V.heap.size V).alloc (Nat.le_refl _) o) h.lt)
theorem cell_one {V : World} {g : Nat} {t : TypeId} {v : Value} (h : Blk V g t #[v]) : V.cell? ⟨g, 0, none⟩ = some v := h.cell 0
theorem Founds.tab {w w' : World} {B g : Nat} {V : List Value} {L : List (List Nat × Int)} (h : Founds w B V L) (hg : w.grownBy w' (some g)) (hb : g < B) : Founds w' B V L :=
  ⟨h.1, fun i hi => by
    obtain ⟨a, m, c, e1, e2, e3, e4⟩ := h.2 i hi
    exact ⟨a, m, c, e1, e2, e3, own_tab e4 hg hb⟩⟩
theorem Fr.seen_end (b : List Nat) : ∀ f k, Fr.Seen b k → 2 * (b.length - Fr.place b k) + (if Fr.lastE b k = 71 then 0 else 1) < f → Fr.from_ b 0 = (Fr.upto b (Fr.from_ b 0).1.length, Fr.place b (Fr.from_ b 0).1.length) := by
  intro f
  induction f with
  | zero => intro k _ h; omega
  | succ f ih =>
    intro k hs hm
    have fin : (Fr.lastE b k = 71 ∨ (Fr.found b k).2 = 70) → Fr.from_ b 0 = (Fr.upto b (Fr.from_ b 0).1.length, Fr.place b (Fr.from_ b 0).1.length) := fun h => by
      have e := Fr.seen_stop hs h
      have e2 : (Fr.from_ b 0).1.length = k := by rw [e, Fr.upto_len]
      rw [e2, e]
    by_cases h71 : Fr.lastE b k = 71
    · exact fin (.inl h71)
    · by_cases h70 : (Fr.found b k).2 = 70
      · exact fin (.inr h70)
      · refine ih (k + 1) (Fr.seen_step hs h71 h70).1 ?_
        rw [if_neg h71] at hm
        have hle := Fr.place_le b k
        show 2 * (b.length - (Fr.tkA b (Fr.place b k)).2.1) + (if (Fr.tkA b (Fr.place b k)).2.2 = 71 then 0 else 1) < f
        have h70' : (Fr.tkA b (Fr.place b k)).2.2 ≠ 70 := h70
        rcases Fr.tkA_cases b (Fr.place b k) with h | h | ⟨_, h, h2, _⟩
        · rw [h] at h70'; exact absurd rfl h70'
        · rw [h]; dsimp only; rw [if_pos rfl]; omega
        · split <;> omega
theorem Fr.seen_all (b : List Nat) : Fr.from_ b 0 = (Fr.upto b (Fr.from_ b 0).1.length, Fr.place b (Fr.from_ b 0).1.length) := Fr.seen_end b _ 0 (Fr.seen_start b) (Nat.lt_succ_self _)
/-- What All's rounds hold: what was found, the place behind it, k being told. -/
def AllI (w : World) (T : Nat) (b : List Nat) (k : Nat) (V : World) : Prop :=
  ∃ (v : Value) (U : List Value), Blk V w.heap.size 36 #[v] ∧ V.ownsRow (T + 3) 44 2 v k U ∧ Founds V (T + 3) U (Fr.upto b k) ∧ Blk V (w.heap.size + 1) 3 #[.int .i64 (Fr.place b k : Int)] ∧ Below w.heap.size w V
theorem AllI.abides {w : World} {T : Nat} {b : List Nat} {k : Nat} (hT : w.heap.size + 2 ≤ T) : Rng.Abides T (AllI w T b k) := fun V V' r h hg h1 h2 => by
  obtain ⟨v, U, a1, a2, a3, a4, a5⟩ := h
  exact ⟨v, U, Rng.abides_blk (.inl (by omega)) V V' r a1 hg h1 h2, Rng.abides_own (Nat.le_refl _) V V' r a2 hg h1 h2, founds_abide (Nat.le_refl _) V V' r a3 hg h1 h2, Rng.abides_blk (.inl (by omega)) V V' r a4 hg h1 h2, Rng.abides_below (Nat.le_refl _) (by omega) V V' r a5 hg h1 h2⟩
theorem AllI.below {w V V' : World} {T : Nat} {b : List Nat} {k : Nat} (h : AllI w T b k V) (hb : Below V.heap.size V V') : AllI w T b k V' := by
  obtain ⟨v, U, a1, a2, a3, a4, a5⟩ := h
  exact ⟨v, U, a1.below hb a1.lt, own_below a2 hb, a3.below hb, a4.below hb a4.lt, below_next a5 hb⟩
/-- What a round's assignments leave: the found one in a box of its own, the place. -/
def AllA (w : World) (T : Nat) (A : Option Addr) (n c : Nat) (b : List Nat) (k : Nat) (x : Option Addr × Nat) (a' : Act) (V : World) : Prop :=
  AllI w T b k V ∧ ReadyF b T k x V ∧ ∃ F, T + 3 ≤ F ∧ Blk V F 44 #[.slice x.1 (Fr.found b k).1.length x.2, .int .i64 (Fr.found b k).2] ∧
    a' = { tmps := #[.slice A n c, undef, .pointer (some ⟨w.heap.size, 0, none⟩), .pointer (some ⟨w.heap.size + 1, 0, none⟩), .pointer (some ⟨F, 0, none⟩), .int .i64 (Fr.place b (k + 1) : Int), .slice A n c, .func (.func 42) #[] #[.pointer (some ⟨w.heap.size + 1 + 1, 0, none⟩)], .agg #[.slice x.1 (Fr.found b k).1.length x.2, .int .i64 (Fr.found b k).2], .int .i64 (Fr.place b (k + 1) : Int), undef, undef, undef, undef, undef, undef, undef], defers := [] }
theorem AllA.abides {w : World} {T : Nat} {A : Option Addr} {n c : Nat} {b : List Nat} {k : Nat} {x : Option Addr × Nat} {a' : Act} (hT : w.heap.size + 2 ≤ T) : Rng.Abides T (AllA w T A n c b k x a') := fun V V' r h hg h1 h2 => by
  obtain ⟨a1, a2, F, a3, a4, a5⟩ := h
  exact ⟨AllI.abides hT V V' r a1 hg h1 h2, Rng.abides_own (Nat.le_refl _) V V' r a2 hg h1 h2, F, a3, Rng.abides_blk (.inr a3) V V' r a4 hg h1 h2, a5⟩
set_option maxRecDepth 100000 in
set_option maxHeartbeats 4000000 in
theorem fAll7_any (n c B : Nat) (A : Option Addr) (b : List Nat) (w : World) (hb : Bytes w B A n b) (hB : B ≤ w.heap.size) (hn : n ≤ 1000000) (hc : n ≤ c) : Calls Try.prog 20 #[.slice A n c] w (AllP 44 w (Fr.from_ b 0)) := by
  obtain ⟨i0, hi, hz0, hz1, hz2⟩ := info_parts Try.info44
  have HI := Lib.hid (And.intro hi (And.intro hz0 (And.intro hz1 hz2)))
  have HST : Hid (∀ W, Calls Try.prog 35 #[.slice A n c] W fun e w' => e = .returned (.func (.func 42) #[] #[.pointer (some ⟨W.heap.size, 0, none⟩)]) ∧ w' = W.alloc (.cells #[.slice A n c] 24)) := Lib.hid fun W => fstanding_any n c A W
  have HB := Lib.hid (And.intro hb (And.intro hB hc))
  have hlen := hb.1
  clear hi hz0 hz1 hz2 hb hB hc
  refine (callsIn_wide (n := 9)).1 ?_
  refine callsIn_of_wp_marks Try.func20 rfl trivial ?_ rfl
  simp only [Try.ntmps20, List.size_toArray, List.length_cons, List.length_nil, Nat.reduceAdd, Nat.reduceSub, Array.replicate_succ, Array.replicate_zero, List.push_toArray, List.append_toArray, List.nil_append, List.cons_append]
  refine wpIn_wide.2 ?_
  go_wp2_with fail
  refine (HST.out _).mono ?_
  rintro e w1 ⟨rfl, rfl⟩
  have K1 := ((Held.start w).new #[.slice none 0 0] 36).new #[.int .i64 0] 3
  have K2 := K1.new #[.slice A n c] 24
  simp only [World.size_alloc] at K2
  obtain ⟨W0, hW⟩ : ∃ W, ((w.alloc (.cells #[.slice none 0 0] 36)).alloc (.cells #[.int .i64 0] 3)).alloc (.cells #[.slice A n c] 24) = W := ⟨_, rfl⟩
  have hsz : W0.heap.size = w.heap.size + 1 + 1 + 1 := by rw [← hW]; simp
  have hby : Bytes W0 B A n b := HB.out.1.below K2.1 HB.out.2.1 |> fun h => by rw [hW] at h; exact h
  rw [hW] at K2
  go_wp2_with fail
  have HX : Hid (Blk W0 (w.heap.size + 1 + 1) 24 #[.slice A n c]) := Lib.hid K2.top
  have h0 : AllI w W0.heap.size b 0 W0 := ⟨.slice none 0 0, [], K2.drop.drop.top, own_nil _ _ _ _, Founds.nil _ _, K2.drop.top, K2.1⟩
  have H0 := Lib.hid h0
  clear hW K1 K2 h0
  refine (wpIn_wide (n := 9)).1 ?_
  refine Rng.wp_range (gf := 42) (lb := #[.pointer (some ⟨w.heap.size + 1 + 1, 0, none⟩)]) rfl (enters_of Try.func42 (by kernel_rfl) rfl) (T := W0.heap.size) rfl (fun r h => by rcases h with rfl | ⟨h, _⟩; omega; have := HB.out.2.1; omega)
    (fstanding_gives n c B (w.heap.size + 1 + 1) 8 A b W0 hby (by have := HB.out.2.1; omega) hn HB.out.2.2 HX.out (by omega)) (fun _ _ => rfl)
    (AllI w W0.heap.size b) (fun _ _ _ => False) (fun k => AllI.abides (by omega)) (fun _ _ => fun _ _ _ h _ _ _ => h) H0.out
    (AllA w W0.heap.size A n c b) (fun k x a' => AllA.abides (by omega)) ?assign ?body ?done ?stop
  case assign =>
    rintro l k ⟨A1, c1⟩ V C hk hI hr hz hC
    have hlV := hI
    have hal : Below V.heap.size V (V.alloc (.cells #[.slice A1 (Fr.found b k).1.length c1, .int .i64 (Fr.found b k).2] 44)) := (Below.refl _ _).alloc (Nat.le_refl _) _
    have HAL := Lib.hid (And.intro hal (And.intro hI (And.intro hr hC)))
    clear hal hI hr hC hlV
    gi_wp2
    refine HAL.out.2.2.2 _ _ (kept_below HAL.out.1 hz (fun r h => by rcases h with rfl | ⟨h, _⟩; omega; have := HB.out.2.1; omega)) ⟨HAL.out.2.1.below HAL.out.1, own_below HAL.out.2.2.1 HAL.out.1, V.heap.size, hz, Blk.new _ _ _, rfl⟩
  case body =>
    rintro l k ⟨A1, c1⟩ a' V hk ⟨⟨v, U, a1, a2, a3, a4, a5⟩, hr, F, hF, hFb, rfl⟩ hz
    have hN := Fr.from_lenA b (b.length + 1) 0 (by omega) (by omega)
    have hfl : (Fr.found b k).1.length ≤ 8192 := by
      show (Fr.tkA b (Fr.place b k)).1.length ≤ 8192
      rcases Fr.tkA_cases b (Fr.place b k) with h | h | ⟨_, _, _, h⟩
      · rw [h]; simp
      · rw [h]; simp
      · exact h
    have hfe : Fr.upto b (k + 1) = Fr.upto b k ++ [((Fr.found b k).1, (Fr.found b k).2)] := Fr.upto_succ b k
    obtain ⟨body, er, hbe⟩ : ∃ x y, Fr.found b k = (x, y) := ⟨_, _, rfl⟩
    unfold ReadyF at hr
    rw [hbe] at hr hFb hfl hfe
    dsimp only at hr hFb hfl hfe
    have d0 := hFb.cell 0
    have d1 := hFb.cell 1
    have e0 := a1.cell 0
    have e1 := a4.cell 0
    have g0 := a1.frozen 0
    have g1 := a4.frozen 0
    simp only [List.getElem?_toArray, List.getElem?_cons_zero, List.getElem?_cons_succ] at d0 d1 e0 e1
    have hfo1 : Founds V (W0.heap.size + 3) (U ++ [.slice A1 body.length c1, .int .i64 er]) (Fr.upto b k ++ [(body, er)]) := a3.snoc hr (by omega)
    have hal : Below V.heap.size V (V.alloc (.cells #[.slice A1 body.length c1, .int .i64 er] 44)) := (Below.refl _ _).alloc (Nat.le_refl _) _
    have HF := Lib.hid (And.intro hfo1 (And.intro hal (And.intro a1 (And.intro a2 (And.intro a4 (And.intro a5 (And.intro hfe (And.intro hr hFb))))))))
    have hk' : k ≤ 1000001 := by omega
    rw [hbe]
    clear hfo1 hal a1 a2 a3 a4 a5 hfe hr hFb hN hk hbe
    gi_wp2_with (gi_at_builtin; refine wpListIn_append_own _ rfl _ _ 36 rfl (W0.heap.size + 3) 44 i0 (.agg #[.slice none 0 0, .int .i64 0]) 2 32 Try.underlying36 HI.out.1 HI.out.2.1 HI.out.2.2.1 HI.out.2.2.2 rfl (by decide) _ k U rfl (HF.out.2.2.2.1.alloc _) ⟨V.heap.size, 0, none⟩ 1 1 [.slice A1 body.length c1, .int .i64 er] rfl rfl (cells2 V _ _ _) (by simp [Value.oneCell']) (by unfold maxLen; omega) (by omega) (by simp; omega) ?_; intro v' w2 hown hgrow _; obtain ⟨g', cap', rfl⟩ := ownsRow_succ hown; have hfar : ∀ g, v.ownBlock = some g → W0.heap.size + 3 ≤ g := fun g hg => (HF.out.2.2.2.1.lt g hg).1; have b1 := blk_grown HF.out.2.2.1 hgrow (fun g hg => by have := hfar g hg; omega); have b2 := blk_grown HF.out.2.2.2.2.1 hgrow (fun g hg => by have := hfar g hg; omega); have q1 := cell_one b1; have q2 := cell_one b2; have q3 := b1.frozen 0; have q4 := b2.frozen 0)
    rw [← hsz]
    have hg1 := grownBy_setCell' w2 w.heap.size (.slice (some ⟨g', 0, none⟩) (k + 1) cap')
    have hg2 := grownBy_setCell' (w2.setCell ⟨w.heap.size, 0, none⟩ (.slice (some ⟨g', 0, none⟩) (k + 1) cap')) (w.heap.size + 1) (.int .i64 (Fr.place b (k + 1) : Int))
    have hga := (Below.refl V.heap.size V).alloc (Nat.le_refl _) (.cells #[.slice A1 body.length c1, .int .i64 er] 44)
    have hsa : (V.alloc (.cells #[.slice A1 body.length c1, .int .i64 er] 44)).heap.size = V.heap.size + 1 := by simp
    have hz2 := hgrow.size
    rw [hsa] at hz2
    refine ⟨⟨Nat.le_trans (by omega) (Nat.le_trans hg1.size hg2.size), fun r hr => ?_⟩, _, _, ((b1.set_ 0 _).far (by omega) _), own_tab (own_tab hown hg1 (by omega)) hg2 (by omega), ?_, (b2.far (by omega) _).set_ 0 _, ?_⟩
    · have hrz : r < V.heap.size ∧ r ≠ w.heap.size ∧ r ≠ w.heap.size + 1 ∧ r < W0.heap.size + 3 := by
        have := HB.out.2.1
        rcases hr with hr | rfl | ⟨hr, _⟩ <;> omega
      have s1 := hg1.size
      refine (hg2.block r (by omega) (fun e => by injection e with e; omega)).trans ((hg1.block r (by omega) (fun e => by injection e with e; omega)).trans ((hgrow.block r (by omega) (fun e => by have := hfar r e.symm; omega)).trans (hga.block r hrz.1)))
    · rw [HF.out.2.2.2.2.2.2.1]
      exact (((HF.out.1.below HF.out.2.1).grown (HF.out.2.2.2.1.alloc _) (by decide) hgrow).tab hg1 (by omega)).tab hg2 (by omega)
    · exact ((grow_below HF.out.2.2.2.2.2.1 hgrow (fun g hg => by have := hfar g hg; omega)).setCell (p := ⟨w.heap.size, 0, none⟩) (Nat.le_refl _) _).setCell (p := ⟨w.heap.size + 1, 0, none⟩) (by simp) _
  case done =>
    rintro V ⟨v, U, a1, a2, a3, a4, a5⟩ hd
    obtain ⟨A9, c9, rfl⟩ := own_slice a2
    have c1 := cell_one a1
    have c2 := cell_one a4
    have f1 := a1.frozen 0
    have f2 := a4.frozen 0
    go_wp2_with fail
    go_region
    go_wp2_with fail
    have hT2 : w.heap.size + 2 ≤ W0.heap.size := by omega
    have hv := Fr.seen_all b
    obtain ⟨N, hN⟩ : ∃ N, (Fr.from_ b 0).1.length = N := ⟨_, rfl⟩
    rw [hN] at a1 a2 a3 a4 hv ⊢
    have hg1 := grownBy_setCell' V w.heap.size (.slice A9 N c9)
    have hg2 := grownBy_setCell' (V.setCell ⟨w.heap.size, 0, none⟩ (.slice A9 N c9)) (w.heap.size + 1) (.int .i64 (Fr.place b N : Int))
    obtain ⟨S, hS⟩ : ∃ S, ((V.setCell ⟨w.heap.size, 0, none⟩ (.slice A9 N c9)).setCell ⟨w.heap.size + 1, 0, none⟩ (.int .i64 (Fr.place b N : Int))).drew = S := ⟨_, rfl⟩
    have hI : AllI w W0.heap.size b N S := by
      rw [← hS]
      exact AllI.below (V := (V.setCell ⟨w.heap.size, 0, none⟩ (.slice A9 N c9)).setCell ⟨w.heap.size + 1, 0, none⟩ (.int .i64 (Fr.place b N : Int)))
        ⟨_, U, (a1.set_ 0 _).far (by omega) _, own_tab (own_tab a2 hg1 (by omega)) hg2 (by omega), (a3.tab hg1 (by omega)).tab hg2 (by omega), (a4.far (by omega) _).set_ 0 _, (a5.setCell (p := ⟨w.heap.size, 0, none⟩) (Nat.le_refl _) _).setCell (p := ⟨w.heap.size + 1, 0, none⟩) (by simp) _⟩ (Below.refl _ _).drew
    have hdS : S.heap[W0.heap.size]? = some (.deferred (some [])) := by
      rw [← hS]
      have hlt := (Array.getElem?_eq_some_iff.1 hd).1
      exact ((hg2.block _ (by have := hg1.size; omega) (fun e => by injection e with e; omega)).trans (hg1.block _ hlt (fun e => by injection e with e; omega))).trans hd
    rw [hS]
    obtain ⟨v', U', k1, k2, k3, k4, k5⟩ := AllI.abides hT2 S _ W0.heap.size hI (grownBy_putObj' S W0.heap.size (.deferred none)) (Nat.le_refl _) (by omega)
    obtain ⟨A8, c8, rfl⟩ := own_slice k2
    have x1 := cell_one k1
    have x2 := cell_one k4
    refine ⟨by simp, .inl ⟨_, _, rfl, run_takeDeferred hdS, ?_⟩⟩
    refine ⟨.tuple #[.slice A8 N c8, .int .i64 (Fr.place b N : Int)], ?_, ?_⟩
    · simp [results, Try.results20, go_sem, x1, x2]
    · refine ⟨A8, c8, U', ?_, ?_, ?_, k5⟩
      · rw [hv, Fr.upto_len]
      · rw [hv, Fr.upto_len]; exact own_lower k2 (by omega)
      · rw [hv]; exact k3.lower (by omega)
  case stop =>
    rintro c k V hk h
    exact h.elim
end Go.Proofs.Ytnokbnobnhkmgaa
