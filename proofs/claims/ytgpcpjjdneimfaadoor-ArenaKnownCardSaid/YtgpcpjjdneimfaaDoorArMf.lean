/- Layer 11, the program: Make where no number is free. -/
import Derived.Test.YtgpcpjjdneimfaaDoorArMk
import Derived.Maps.AppendAt
namespace Go.Proofs.YtgpcpjjdneimfaaDoor
open Go.ChangeShapes Go.WideShapes Go.ChangeAt Go.RowKit

theorem CellsB.own {w : World} {A : Option Nat} {c : Nat} {L : List Ar.Pl} {V : List NdV} (h : CellsB w A c L V) (hlen : V.length = L.length) : ∃ xs : List Value, w.ownsRow 0 88 6 (.slice (adOf A) L.length c) L.length xs ∧ ∀ (i : Nat) (p : Ar.Pl) (v : NdV), L[i]? = some p → V[i]? = some v → ∀ j, j < 6 → xs[i * 6 + j]? = (rowOf i p v)[j]? := by
  cases A with
  | none =>
    obtain ⟨rfl, rfl⟩ := h
    exact ⟨[], own_nil _ _ _ _, fun i p v hp => by simp at hp⟩
  | some b =>
    obtain ⟨cs, h1, h2, h3, h4, h5⟩ := h
    refine ⟨cs.toList.take (L.length * 6), ⟨by simp [h4]; omega, .inr ⟨b, c, cs, rfl, Nat.zero_le _, h1, h2, h3, h4, rfl⟩⟩, fun i p v hp hv j hj => ?_⟩
    have hi := (List.getElem?_eq_some_iff.1 hp).1
    rw [List.getElem?_take_of_lt (by omega), Array.getElem?_toList]
    exact h5 i p v hp hv j hj
theorem own_back {w : World} {v : Value} {n : Nat} {xs : List Value} (h : w.ownsRow 0 88 6 v (n + 1) xs) : ∃ b cap cur, v = .slice (some ⟨b, 0, none⟩) (n + 1) cap ∧ Blk w b 88 cur ∧ n + 1 ≤ cap ∧ cap ≤ maxLen ∧ cur.size = cap * 6 ∧ ∀ k, k < (n + 1) * 6 → cur[k]? = xs[k]? := by
  rcases h.2 with ⟨_, h1⟩ | ⟨g', cap', cur, e, hb, hh, hnc, hcm, hcs, htake⟩
  · omega
  · refine ⟨g', cap', cur, e, hh, hnc, hcm, hcs, fun k hk => ?_⟩
    rw [← htake, List.getElem?_take_of_lt hk, Array.getElem?_toList]
theorem cell_six (W : World) (x0 x1 x2 x3 x4 x5 : Value) (T : TypeId) (g : Nat) (hg : g = W.heap.size) : ∀ j u, [x0, x1, x2, x3, x4, x5][j]? = some u → (W.alloc (.cells #[x0, x1, x2, x3, x4, x5] T)).cell? ((⟨g, 0, none⟩ : Addr).add j) = some u := by
  intro j u hj
  subst hg
  rw [add_at, Nat.zero_add, (Blk.new W T _).cell]
  simpa using hj
set_option maxRecDepth 100000 in
theorem arMake_full (w : World) (P F : Nat → Prop) (g : Nat) (L : List Ar.Pl) (A : Option Nat) (c : Nat) (mv : Option Nat) (f : Nat → Nat → Nat) (V : List NdV) (h : ArMem w P g L A c mv f V) (v : NdV) (d : Ar.Nd) (hv : NdIn w F v d) (hF : ∀ b, F b → ¬ P b) (hl : Few L 100000) (hfull : freeN L = 0) :
    Calls Tryd.prog 24 #[.pointer (some ⟨g, 0, none⟩), v.val d.leaf] w (MakeP w P g L d) := by
  obtain ⟨A1, n1, c1, A2, n2, c2, A3, n3, c3⟩ := v
  obtain ⟨lf, hlf⟩ : ∃ lf, d.leaf = lf := ⟨_, rfl⟩
  obtain ⟨W, a, r, hW, ha, hr, hB, hbox, hres, hWs⟩ := two_made w (.bool lf) (.slice A1 n1 c1) (.slice A2 n2 c2) (.slice A3 n3 c3)
  have hM := h.below hB
  obtain ⟨n, hn⟩ : ∃ n, L.length = n := ⟨_, rfl⟩
  obtain ⟨xs, hown, hxs⟩ := hM.cells.own hM.len
  have hblk := hM.blk
  rw [hn, hfull] at hblk
  rw [hn] at hown
  have hn1 : n ≤ 100000 := hn ▸ hl.len
  obtain ⟨i0, hi, hz0, hz1, hz2⟩ := info_parts Tryd.info88
  have x0 : W.cell? ⟨g, 0, none⟩ = some (.slice (adOf A) n c) := hblk.cell 0
  have x2 : W.cell? ⟨g, 2, none⟩ = some (.int .i64 0) := hblk.cell 2
  have f0 := hblk.frozen 0
  have HT := Lib.hid (take_none W g x2)
  have H := Lib.hid (And.intro hW (And.intro ha (And.intro hr (And.intro hB (And.intro hbox (And.intro hres hWs))))))
  have G0 := Lib.hid (And.intro hM (And.intro hown (And.intro hxs (And.intro hn (And.intro hfull (And.intro hlf hblk))))))
  have N := Lib.hid (And.intro hv (And.intro hF (And.intro hl h)))
  have HI := Lib.hid (And.intro hi (And.intro hz0 (And.intro hz1 hz2)))
  unfold NdV.val
  rw [hlf]
  clear hM hown hxs hn hfull hlf hv hF hl hW ha hr hB hbox hres h hblk hWs hi hz0 hz1 hz2
  go_enter Tryd.func24, Tryd.ntmps24
  go_upto_region 3 with fail
  rw [H.out.1, H.out.2.2.1, H.out.2.1]
  go_wp2_with fail
  refine HT.out.mono ?_
  rintro e w1 ⟨rfl, rfl⟩
  go_upto_region 6 with fail
  go_wp2_with (at_builtin; refine wpList_append_own_at _ rfl _ _ 68 rfl 0 88 i0 _ 6 96 Tryd.underlying68 HI.out.1 HI.out.2.1 HI.out.2.2.1 HI.out.2.2.2 rfl (by decide) _ n xs rfl (G0.out.2.1.alloc _) ⟨W.heap.size, 0, none⟩ 1 1 [.int .i64 (n : Int), .int .i64 0, .bool false, .slice none 0 0, .slice none 0 0, .slice none 0 0] rfl rfl (cell_six _ _ _ _ _ _ _ _ _ rfl) (by simp [Value.oneCell']) (by unfold maxLen; omega) (by omega) (Nat.zero_le _) ?_)
  intro v' w0 hown1 hgr _ hloc
  have hAo : (Value.slice (adOf A) n c).ownBlock = A := by cases A <;> rfl
  rw [hAo] at hgr hloc
  obtain ⟨b, cap, cs, rfl, hcs0, hcap, hcm, hcz, hcur⟩ := own_back hown1
  have hloc : A = some b ∨ b = W.heap.size + 1 := by
    rcases hloc with e | e
    · exact .inl e.symm
    · injection e with e
      right
      simpa using e
  have tA : Turns (fun x => A = some x) W w0 := (Turns.of_below ((Below.refl _ _).alloc (Nat.le_refl _) _)).trans (Turns.of_grown hgr)
  have hgA : ¬ A = some g := by
    rintro rfl
    obtain ⟨cs', hcs', _⟩ := G0.out.1.cells
    exact hcs'.kind G0.out.1.blk (by decide) rfl
  have hb0 := tA.blk G0.out.2.2.2.2.2.2 hgA
  have hAw : ∀ x, A = some x → x < w.heap.size := by
    rintro x rfl
    obtain ⟨cs', hcs', _⟩ := N.out.2.2.2.cells
    exact hcs'.lt
  have hal : ∀ x, A = some x → x ≠ a ∧ x ≠ r := fun x hx => by
    have := hAw x hx
    have := H.out.2.1
    have := H.out.2.2.1
    omega
  have hbox0 := tA.blk H.out.2.2.2.2.1 (fun e => (hal _ e).1 rfl)
  have hres0 := tA.blk H.out.2.2.2.2.2.1 (fun e => (hal _ e).2 rfl)
  have x0' : w0.cell? ⟨g, 0, none⟩ = some (.slice (adOf A) n c) := hb0.cell 0
  have f0' := hb0.frozen 0
  have K0 := Lib.hid (And.intro hcs0 (And.intro hcap (And.intro hcm (And.intro hcz (And.intro hcur (And.intro hloc (And.intro tA (And.intro hgA (And.intro hb0 (And.intro hAw (And.intro hal (And.intro hbox0 hres0))))))))))))
  clear hown1 hgr hAo hcs0 hcap hcz hcur hloc tA hgA hb0 hAw hal hbox0 hres0
  clear x0 x2 f0
  go_upto_region 7 with fail
  obtain ⟨w1, hw1⟩ : ∃ w1, w0.setCell ⟨g, 0, none⟩ (.slice (some ⟨b, 0, none⟩) (n + 1) cap) = w1 := ⟨_, rfl⟩
  rw [hw1]
  clear x0' f0'
  have hb1 : Blk w1 g 73 #[.slice (some ⟨b, 0, none⟩) (n + 1) cap, .map mv, .int .i64 0] := hw1 ▸ K0.out.2.2.2.2.2.2.2.2.1.set_ 0 _
  have ht1 : Turns (fun x => x = g ∨ A = some x) W w1 := hw1 ▸ (K0.out.2.2.2.2.2.2.1.mono (fun _ _ e => .inr e)).setCell (g := g) 0 _ (fun _ => .inl rfl)
  have hbg : b ≠ g := K0.out.1.kind K0.out.2.2.2.2.2.2.2.2.1 (by decide)
  have hcs1 : Blk w1 b 88 cs := hw1 ▸ K0.out.1.far (b := g) (o := 0) (fun e => hbg e.symm) _
  have hgw : g < w.heap.size := N.out.2.2.2.blk.lt
  have hga : g ≠ a ∧ g ≠ r := by have := H.out.2.1; have := H.out.2.2.1; omega
  have hbox1 : Blk w1 a _ _ := hw1 ▸ K0.out.2.2.2.2.2.2.2.2.2.2.2.1.far (b := g) (o := 0) hga.1 _
  have hres1 : Blk w1 r _ _ := hw1 ▸ K0.out.2.2.2.2.2.2.2.2.2.2.2.2.far (b := g) (o := 0) hga.2 _
  have hbQ : P b ∨ w.heap.size ≤ b := by
    rcases K0.out.2.2.2.2.2.1 with e | e
    · exact .inl (N.out.2.2.2.pA _ e)
    · have := H.out.2.2.2.2.2.2
      right
      omega
  have habr : a ≠ b ∧ r ≠ b := by
    rcases K0.out.2.2.2.2.2.1 with e | e
    · have := K0.out.2.2.2.2.2.2.2.2.2.2.1 _ e
      exact ⟨fun e => this.1 e.symm, fun e => this.2 e.symm⟩
    · have := H.out.2.2.2.2.2.2
      have := H.out.2.1
      have := H.out.2.2.1
      omega
  have hbF : ∀ x, F x → x < w.heap.size → ¬ x = b := by
    rintro x hx hlt rfl
    rcases hbQ with e | e
    · exact N.out.2.1 _ hx e
    · omega
  have x0 : w1.cell? ⟨g, 0, none⟩ = some (.slice (some ⟨b, 0, none⟩) (n + 1) cap) := hb1.cell 0
  have hrow : ∀ j, j < 6 → cs[n * 6 + j]? = [Value.int .i64 (n : Int), .int .i64 0, .bool false, .slice none 0 0, .slice none 0 0, .slice none 0 0][j]? := fun j hj => by
    have hx : xs.length = n * 6 := G0.out.2.1.1
    rw [K0.out.2.2.2.2.1 _ (by omega), List.getElem?_append_right (by omega)]
    congr 1
    omega
  have z0 : w1.cell? ⟨b, n * 6, none⟩ = some (.int .i64 (n : Int)) := (hcs1.cell _).trans (hrow 0 (by omega))
  have z1 : w1.cell? ⟨b, n * 6 + 1, none⟩ = some (.int .i64 0) := (hcs1.cell _).trans (hrow 1 (by omega))
  have ft := hcs1.frozen (n * 6 + 1)
  have i1 : (0 : Int) ≤ (n : Int) := by omega
  have i2 : (n : Int) < ((n + 1 : Nat) : Int) := by omega
  have K1 := Lib.hid (And.intro hb1 (And.intro ht1 (And.intro hcs1 (And.intro hbox1 (And.intro hres1 (And.intro hbg (And.intro hgw (And.intro hga (And.intro hbQ (And.intro habr (And.intro hbF hrow)))))))))))
  clear hb1 ht1 hcs1 hbox1 hres1 hbg hgw hga hbQ habr hbF hrow hw1
  go_upto_region 9 with fail
  obtain ⟨w2, hw2⟩ : ∃ w2, w1.setCell ⟨b, n * 6 + 1, none⟩ (.int .i64 1) = w2 := ⟨_, rfl⟩
  rw [hw2]
  have t12 : Turns (fun x => x = b) w1 w2 := hw2 ▸ (Turns.refl (fun x => x = b) w1).setCell (g := b) _ _ (fun _ => rfl)
  have hcs2 : Blk w2 b 88 (cs.setIfInBounds (n * 6 + 1) (.int .i64 1)) := hw2 ▸ K1.out.2.2.1.set_ _ _
  have hbox2 := t12.blk K1.out.2.2.2.1 K1.out.2.2.2.2.2.2.2.2.2.1.1
  have hnd2 : NdIn w2 F ⟨A1, n1, c1, A2, n2, c2, A3, n3, c3⟩ d := by
    have h1 := N.out.1.mono (G := fun x => F x ∧ x < w.heap.size) (fun x hx hh => ⟨hh, hx⟩)
    refine (((h1.below H.out.2.2.2.1).turn K1.out.2.1 ?_).turn t12 ?_).mono (fun x _ hx => hx.1)
    · rintro x hx (rfl | e)
      · exact N.out.2.1 _ hx.1 N.out.2.2.2.pg
      · exact N.out.2.1 _ hx.1 (N.out.2.2.2.pA _ e)
    · rintro x hx e
      exact K1.out.2.2.2.2.2.2.2.2.2.2.1 x hx.1 hx.2 e
  have HC : Hid (Calls Tryd.prog 36 #[.agg #[.bool lf, .slice A1 n1 c1, .slice A2 n2 c2, .slice A3 n3 c3]] w2 (NdNew w2 d)) := by
    have h1 := nodeCopied_any w2 F _ d hnd2
    rw [G0.out.2.2.2.2.2.1] at h1
    exact Lib.hid h1
  have y0 := hbox2.cell 0
  have y1 := hbox2.cell 1
  have y2 := hbox2.cell 2
  have y3 := hbox2.cell 3
  simp only [List.getElem?_toArray, List.getElem?_cons_zero, List.getElem?_cons_succ] at y0 y1 y2 y3
  have K2 := Lib.hid (And.intro t12 (And.intro hcs2 hbox2))
  clear hw2 t12 hcs2 hbox2 hnd2 x0 z0 z1 ft
  go_wp2_with fail
  refine HC.out.mono ?_
  rintro e w3 ⟨⟨B1, m1, k1, B2, m2, k2, B3, m3, k3⟩, rfl, hnd3, hb3⟩
  have hcs3 := K2.out.2.1.below hb3 K2.out.2.1.lt
  clear y0 y1 y2 y3
  have hz := K0.out.2.2.2.1
  have hsc : n < cap := by have := K0.out.2.1; omega
  have in_ : ∀ j, j < 6 → ∃ u, w3.cell? ⟨b, n * 6 + j, none⟩ = some u := fun j hj => by
    rw [hcs3.cell]
    exact ⟨_, Array.getElem?_eq_getElem (by rw [Array.size_setIfInBounds, hz]; omega)⟩
  obtain ⟨u2, y2⟩ := in_ 2 (by omega)
  obtain ⟨u3, y3⟩ := in_ 3 (by omega)
  obtain ⟨u4, y4⟩ := in_ 4 (by omega)
  obtain ⟨u5, y5⟩ := in_ 5 (by omega)
  have f2 := hcs3.frozen (n * 6 + 2)
  have f3 := hcs3.frozen (n * 6 + 3)
  have f4 := hcs3.frozen (n * 6 + 4)
  have f5 := hcs3.frozen (n * 6 + 5)
  have K3 := Lib.hid (And.intro hnd3 (And.intro hb3 (And.intro hcs3 hsc)))
  clear hnd3 hb3 hcs3 hsc hz in_
  unfold NdV.val
  have HL := G0.out.2.2.2.2.2.1
  rw [HL]
  clear HL
  go_upto_region 10 with fail
  obtain ⟨w4, hw4⟩ : ∃ w4, setNode w3 b (n * 6 + 2) (.bool lf) (.slice B1 m1 k1) (.slice B2 m2 k2) (.slice B3 m3 k3) = w4 := ⟨_, rfl⟩
  change Code.wp _ _ _ _ (setNode w3 b (n * 6 + 2) (.bool lf) (.slice B1 m1 k1) (.slice B2 m2 k2) (.slice B3 m3 k3))
  rw [hw4]
  have t34 : Turns (fun x => x = b) w3 w4 := hw4 ▸ setNode_turn (Turns.refl _ _) _ _ _ _ _ (fun _ => rfl)
  have hcs4 : Blk w4 b 88 (((((cs.setIfInBounds (n * 6 + 1) (.int .i64 1)).setIfInBounds (n * 6 + 2) (.bool lf)).setIfInBounds (n * 6 + 2 + 1) (.slice B1 m1 k1)).setIfInBounds (n * 6 + 2 + 2) (.slice B2 m2 k2)).setIfInBounds (n * 6 + 2 + 3) (.slice B3 m3 k3)) := by
    rw [← hw4]
    exact (((K3.out.2.2.1.set_ _ _).set_ _ _).set_ _ _).set_ _ _
  have hrb := K1.out.2.2.2.2.2.2.2.2.2.1.2
  have hres4 : Blk w4 r 42 #[.int .i64 0, .int .i64 0] := t34.blk ((K2.out.1.blk K1.out.2.2.2.2.1 hrb).below K3.out.2.1 (K2.out.1.blk K1.out.2.2.2.2.1 hrb).lt) hrb
  have hz := K0.out.2.2.2.1
  have hsc := K3.out.2.2.2
  have h0 : cs[n * 6]? = some (.int .i64 (n : Int)) := K1.out.2.2.2.2.2.2.2.2.2.2.2 0 (by omega)
  have z0 : w4.cell? ⟨b, n * 6, none⟩ = some (.int .i64 (n : Int)) := by
    rw [hcs4.cell]
    simp only [Array.getElem?_setIfInBounds, Array.size_setIfInBounds]
    rw [if_neg (by omega), if_neg (by omega), if_neg (by omega), if_neg (by omega), if_neg (by omega)]
    exact h0
  have z1 : w4.cell? ⟨b, n * 6 + 1, none⟩ = some (.int .i64 1) := by
    rw [hcs4.cell]
    simp only [Array.getElem?_setIfInBounds, Array.size_setIfInBounds]
    rw [if_neg (by omega), if_neg (by omega), if_neg (by omega), if_neg (by omega)]
    rw [if_pos trivial, if_pos (by rw [hz]; omega)]
  have x0 := hres4.cell 0
  have x1 := hres4.cell 1
  have g0 := hres4.frozen 0
  have g1 := hres4.frozen 1
  simp only [List.getElem?_toArray, List.getElem?_cons_zero, List.getElem?_cons_succ] at x0 x1
  have K4 := Lib.hid (And.intro t34 (And.intro hcs4 (And.intro hres4 h0)))
  clear y2 y3 y4 y5 f2 f3 f4 f5 hw4 t34 hcs4 hres4 h0 hz hsc hrb
  go_wp2_with fail
  obtain ⟨w5, hw5⟩ : ∃ w5, (w4.setCell ⟨r, 0, none⟩ (.int .i64 (n : Int))).setCell ⟨r, 1, none⟩ (.int .i64 1) = w5 := ⟨_, rfl⟩
  rw [hw5]
  have t45 : Turns (fun x => x = r) w4 w5 := hw5 ▸ ((Turns.refl (fun x => x = r) w4).setCell (g := r) 0 _ (fun _ => rfl)).setCell (g := r) 1 _ (fun _ => rfl)
  have hres5 : Blk w5 r 42 #[.int .i64 (n : Int), .int .i64 1] := hw5 ▸ (K4.out.2.2.1.set_ 0 (.int .i64 (n : Int))).set_ 1 (.int .i64 1)
  have e0 := hres5.cell 0
  have e1 := hres5.cell 1
  simp only [List.getElem?_toArray, List.getElem?_cons_zero, List.getElem?_cons_succ] at e0 e1
  clear x0 x1 g0 g1 z0 z1
  refine bodyPost_ret (v := .agg #[.int .i64 (n : Int), .int .i64 1]) ?_ rfl ?_
  · simp [results, Tryd.results24, go_sem, e0, e1]
  · obtain ⟨hb1, ht1, hcs1, hbox1, hres1, hbg, hgw, hga, hbQ, ⟨hab, hrb⟩, hbF, hrow⟩ := K1.out
    obtain ⟨t12, hcs2, hbox2⟩ := K2.out
    obtain ⟨hnd3, hb3, hcs3, hsc⟩ := K3.out
    obtain ⟨t34, hcs4, hres4, h0⟩ := K4.out
    obtain ⟨hW, ha, hr, hB, hbox, hres, hWs⟩ := H.out
    obtain ⟨hM, hown, hxs, hn, hfull, hlf, hblk⟩ := G0.out
    obtain ⟨hv, hF, hl, h⟩ := N.out
    obtain ⟨hcs0, hcap, hcm, hcz, hcur, hloc, tA, hgA, hb0, hAw, hal, hbox0, hres0⟩ := K0.out
    have hnx : Ar.next L = 1 := next_full hfull
    have hlo : Ar.lo L = n := by rw [lo_full hfull, hn]
    have hmk := make_full hfull d
    have s1 := ht1.size
    have s2 := t12.size
    have s3 := hb3.size
    have s4 := t34.size
    have s5 := t45.size
    have hbl1 := hcs1.lt
    have hmw : ∀ mb, mv = some mb → mb < w.heap.size ∧ mb ≠ g ∧ ¬ A = some mb ∧ mb ≠ b := by
      rintro mb rfl
      have h1 := h.words.lt
      have h2 := h.words.ne h.blk
      refine ⟨h1, h2, ?_, ?_⟩
      · rintro rfl
        obtain ⟨cs', hcs', _⟩ := h.cells
        exact h.words.ne hcs' rfl
      · rintro rfl
        rcases hloc with rfl | e
        · obtain ⟨cs', hcs', _⟩ := h.cells
          exact h.words.ne hcs' rfl
        · omega
    have T5 : Turns P w w5 := by
      have q0 : Turns (fun x => P x ∨ w.heap.size ≤ x) w W := Turns.of_below hB
      have q1 : Turns (fun x => P x ∨ w.heap.size ≤ x) W w1 := ht1.mono (by rintro x _ (rfl | e); exact .inl h.pg; exact .inl (h.pA _ e))
      have q2 : Turns (fun x => P x ∨ w.heap.size ≤ x) w1 w2 := t12.mono (by rintro x _ rfl; exact hbQ)
      have q3 : Turns (fun x => P x ∨ w.heap.size ≤ x) w2 w3 := Turns.of_below hb3
      have q4 : Turns (fun x => P x ∨ w.heap.size ≤ x) w3 w4 := t34.mono (by rintro x _ rfl; exact hbQ)
      have q5 : Turns (fun x => P x ∨ w.heap.size ≤ x) w4 w5 := t45.mono (by rintro x _ rfl; exact .inr (by omega))
      exact (((((q0.trans q1).trans q2).trans q3).trans q4).trans q5).mono (by
        rintro x hx (hP | hP)
        · exact hP
        · omega)
    refine ⟨by rw [hlo, hnx]; rfl, ⟨some b, cap, mv, f, V ++ [⟨B1, m1, k1, B2, m2, k2, B3, m3, k3⟩], ?_⟩, T5⟩
    have hq : (Ar.make L d)[n]? = some ⟨true, 1, d⟩ := by
      rw [hmk, ← hn]
      simp
    have hVl : V.length = n := by rw [hM.len, hn]
    have hVs : (V ++ [(⟨B1, m1, k1, B2, m2, k2, B3, m3, k3⟩ : NdV)])[n]? = some ⟨B1, m1, k1, B2, m2, k2, B3, m3, k3⟩ := by
      rw [← hVl]
      simp
    have hoL : ∀ i p, i ≠ n → (Ar.make L d)[i]? = some p → L[i]? = some p ∧ i < n := fun i p hi hp => by
      rw [hmk] at hp
      have h1 := (List.getElem?_eq_some_iff.1 hp).1
      rw [List.length_append, hn] at h1
      have h2 : i < n := by simp at h1; omega
      rw [List.getElem?_append_left (by omega)] at hp
      exact ⟨hp, h2⟩
    have hoV : ∀ i, i < n → (V ++ [(⟨B1, m1, k1, B2, m2, k2, B3, m3, k3⟩ : NdV)])[i]? = V[i]? := fun i hi => List.getElem?_append_left (by omega)
    have hlen : (Ar.make L d).length = n + 1 := by rw [hmk, List.length_append, hn]; rfl
    have hfn : ((freeN (Ar.make L d) : Nat) : Int) = 0 := by rw [freeN_make_full hfull]; rfl
    refine ⟨?_, ⟨_, t45.blk hcs4 (fun e => hrb e.symm), by rw [hlen]; omega, hcm, by simp [hcz], ?_⟩, ?_, ?_, ?_, by rw [hlen, List.length_append, hVl]; rfl, .inl h.pg, ?_, fun x e => .inl (h.pmv x e), ?_⟩
    · rw [hlen, hfn]
      exact t45.blk (t34.blk ((t12.blk hb1 (fun e => hbg e.symm)).below hb3 (t12.blk hb1 (fun e => hbg e.symm)).lt) (fun e => hbg e.symm)) hga.2
    · have h1 := rows_stored (q := ⟨true, 1, d⟩) hsc hcz h0 hq hVs (fun i p v hi hpi hvi j hj => by
        obtain ⟨hp, hin⟩ := hoL i p hi hpi
        rw [hoV i hin] at hvi
        have hx : xs.length = n * 6 := hown.1
        rw [hcur _ (by omega), List.getElem?_append_left (by omega)]
        exact hxs i p v hp hvi j hj)
      rw [show (⟨true, 1, d⟩ : Ar.Pl).nd.leaf = lf from hlf] at h1
      exact h1
    · exact hM.words.keep fun x e => by
        obtain ⟨m1, m2, m3, m4⟩ := hmw x e
        rw [t45.block x (by omega) (by omega), t34.block x (by omega) m4, hb3.block x (by omega), t12.block x (by omega) m4, ht1.block x (by omega) (by rintro (e | e); exact m2 e; exact m3 e)]
    · rw [Fr_make_full hfull]
      exact hM.rep
    · intro i p' v' hpi hvi
      by_cases hi : i = n
      · subst hi
        rw [hq] at hpi
        cases hpi
        rw [hVs] at hvi
        cases hvi
        refine ((hnd3.mono (G := fun x => w2.heap.size ≤ x ∧ x < w3.heap.size) (fun x hx hh => ⟨hh, hx⟩)).turn t34 (fun x hx e => by omega) |>.turn t45 (fun x hx e => by omega)).mono ?_
        rintro x _ ⟨hx, hx2⟩
        refine ⟨.inr ⟨by omega, by omega⟩, by omega, ?_, ?_⟩
        · intro e; injection e with e; omega
        · intro e
          have := (hmw x e).1
          omega
      · obtain ⟨hp, hin⟩ := hoL i p' hi hpi
        rw [hoV i hin] at hvi
        have h1 := (h.nd i p' v' hp hvi).mono (G := fun x => (P x ∧ x ≠ g ∧ A ≠ some x ∧ mv ≠ some x) ∧ x < w.heap.size) (fun x hx hh => ⟨hh, hx⟩)
        have hxb : ∀ x, ((P x ∧ x ≠ g ∧ A ≠ some x ∧ mv ≠ some x) ∧ x < w.heap.size) → ¬ x = b := by
          rintro x hx rfl
          rcases hloc with e | e
          · exact hx.1.2.2.1 e
          · omega
        have h2 := ((((h1.below hB).turn ht1 (by rintro x hx (e | e); exact hx.1.2.1 e; exact hx.1.2.2.1 e)).turn t12 hxb).below hb3).turn t34 hxb |>.turn t45 (by rintro x hx e; omega)
        refine h2.mono ?_
        rintro x _ hx
        refine ⟨.inl hx.1.1, hx.1.2.1, ?_, hx.1.2.2.2⟩
        intro e
        injection e with e
        exact hxb x hx e.symm
    · intro x e
      injection e with e
      subst e
      rcases hbQ with e | e
      · exact .inl e
      · exact .inr ⟨e, by omega⟩
    · rintro x (hx | hx)
      · exact h.low x hx
      · omega
end Go.Proofs.YtgpcpjjdneimfaaDoor
