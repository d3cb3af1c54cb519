/- Layer 11, the program: Make where a number is free. -/
import Derived.Test.YtgpcpjjdneimfaaDoorArP
namespace Go.Proofs.YtgpcpjjdneimfaaDoor
open Go.ChangeShapes Go.WideShapes Go.ChangeAt Go.RowKit

theorem Blk.kind {w : World} {g b : Nat} {T T' : TypeId} {cs cs' : Array Value} (h : Blk w g T cs) (h' : Blk w b T' cs') (hT : T ≠ T') : g ≠ b := by
  rintro rfl
  unfold Blk at h h'
  rw [h] at h'
  injection h' with h'
  injection h' with _ h2
  exact hT h2
/-- Two blocks of the call's own: a node's cells, and a handle's. -/
theorem two_made (w : World) (u0 u1 u2 u3 : Value) : ∃ W a r, (w.alloc (.cells #[u0, u1, u2, u3] 36)).alloc (.cells #[.int .i64 0, .int .i64 0] 42) = W ∧ w.heap.size = a ∧ w.heap.size + 1 = r ∧ Below w.heap.size w W ∧ Blk W a 36 #[u0, u1, u2, u3] ∧ Blk W r 42 #[.int .i64 0, .int .i64 0] ∧ W.heap.size = w.heap.size + 2 := by
  refine ⟨_, _, _, rfl, rfl, rfl, ((Below.refl _ _).alloc (Nat.le_refl _) _).alloc (by simp) _, (Blk.new w _ _).below ((Below.refl _ _).alloc (Nat.le_refl _) _) (by simp), ?_, by simp⟩
  have := Blk.new (w.alloc (.cells #[u0, u1, u2, u3] 36)) 42 #[.int .i64 0, .int .i64 0]
  simpa using this
set_option maxRecDepth 100000 in
theorem arMake_free (w : World) (P F : Nat → Prop) (g : Nat) (L : List Ar.Pl) (A : Option Nat) (c : Nat) (mv : Option Nat) (f : Nat → Nat → Nat) (V : List NdV) (h : ArMem w P g L A c mv f V) (v : NdV) (d : Ar.Nd) (hv : NdIn w F v d) (hF : ∀ b, F b → ¬ P b) (hl : Few L 100000) (hfree : 0 < freeN L) (hvars : Vars w) :
    Calls Tryd.prog 24 #[.pointer (some ⟨g, 0, none⟩), v.val d.leaf] w (MakeP w P g L d) := by
  obtain ⟨A1, n1, c1, A2, n2, c2, A3, n3, c3⟩ := v
  obtain ⟨lf, hlf⟩ : ∃ lf, d.leaf = lf := ⟨_, rfl⟩
  obtain ⟨W, a, r, hW, ha, hr, hB, hbox, hres, hWs⟩ := two_made w (.bool lf) (.slice A1 n1 c1) (.slice A2 n2 c2) (.slice A3 n3 c3)
  have hs := lo_Fr hfree
  obtain ⟨s, hse⟩ : ∃ s, Ar.lo L = s := ⟨_, rfl⟩
  rw [hse] at hs
  obtain ⟨p, hp, hpu⟩ := hs
  have hsl : s < L.length := (List.getElem?_eq_some_iff.1 hp).1
  have hM := h.below hB
  obtain ⟨b, v0, hA, hv0, hc⟩ := hM.at_ hp
  subst hA
  obtain ⟨cs, hcs, hcap, hcm, hcz, hrows⟩ := hM.cells
  have hmv : ∃ mb, mv = some mb := by
    cases mv with
    | some mb => exact ⟨mb, rfl⟩
    | none =>
      have := words_none hM.words
      have h2 := (Wt.Word.has hM.rep s).2 ⟨p, hp, hpu⟩
      rw [this, Nat.zero_testBit] at h2
      cases h2
  obtain ⟨mb, rfl⟩ := hmv
  obtain ⟨n, hn⟩ : ∃ n, L.length = n := ⟨_, rfl⟩
  obtain ⟨k, hk⟩ : ∃ k, freeN L = k := ⟨_, rfl⟩
  have hblk := hM.blk
  rw [hn, hk] at hblk
  rw [hk] at hfree
  have hkn : k ≤ 100000 := by
    have h1 : freeN L ≤ L.length := List.countP_le_length
    have h2 := hl.len
    omega
  have HT := Lib.hid (take_some W g s mb _ (k : Int) (Fr L) f hblk hM.words hM.rep ⟨p, hp, hpu⟩ (fun x hx => hse ▸ lo_least hx) (by omega) (by omega) (hvars.next hB))
  have H := Lib.hid (And.intro hW (And.intro ha (And.intro hr (And.intro hB (And.intro hbox (And.intro hres hWs))))))
  have G := Lib.hid (And.intro hM (And.intro hcs (And.intro hcap (And.intro hcm (And.intro hcz (And.intro hrows (And.intro hc (And.intro hp (And.intro hpu (And.intro hse (And.intro hn (And.intro hk hlf))))))))))))
  have N := Lib.hid (And.intro hv (And.intro hF (And.intro hl (And.intro hv0 h))))
  unfold NdV.val
  rw [hlf]
  have hsn : s < n := by omega
  clear hM hcs hcap hcz hrows hc hp hpu hse hn hk hlf hv hF hl hv0 hW ha hr hB hbox hres h hblk hvars hWs hsl
  go_enter Tryd.func24, Tryd.ntmps24
  go_upto_region 3 with fail
  rw [H.out.1, H.out.2.2.1, H.out.2.1]
  go_wp2_with fail
  refine HT.out.mono ?_
  rintro e w1 ⟨rfl, f1, hb1, hw1, hr1, ht1⟩
  have bs : b ≠ g := G.out.2.1.kind G.out.1.blk (by decide)
  have bm : b ≠ mb := by
    rintro rfl
    exact G.out.1.words.ne G.out.2.1 rfl
  have hcs1 := ht1.blk G.out.2.1 (by rintro (e | e); exact bs e; exact bm e)
  have hgs : g < W.heap.size ∧ mb < W.heap.size ∧ b < W.heap.size := ⟨G.out.1.blk.lt, G.out.1.words.lt, G.out.2.1.lt⟩
  have hgw : g < w.heap.size ∧ mb < w.heap.size ∧ b < w.heap.size := by
    obtain ⟨hb, hw⟩ := And.intro N.out.2.2.2.2.blk.lt N.out.2.2.2.2.words.lt
    obtain ⟨cs', hcs', _⟩ := N.out.2.2.2.2.cells
    exact ⟨hb, hw, hcs'.lt⟩
  have hbox1 := ht1.blk H.out.2.2.2.2.1 (by have := H.out.2.1; rintro (e | e) <;> omega)
  have hres1 := ht1.blk H.out.2.2.2.2.2.1 (by have := H.out.2.2.1; rintro (e | e) <;> omega)
  have x0 : w1.cell? ⟨g, 0, none⟩ = some (.slice (some ⟨b, 0, none⟩) n c) := hb1.cell 0
  obtain ⟨z0, z1, z2, z3, z4, z5⟩ := fits_nodeIn (w := w1) (fun j hj => (hcs1.cell _).trans ((G.out.2.1.cell _).symm.trans (G.out.2.2.2.2.2.2.1 j hj)))
  have ft := hcs1.frozen (s * 6 + 1)
  have i1 : (0 : Int) ≤ (s : Int) := by omega
  have i2 : (s : Int) < (n : Int) := by omega
  have htb : p.turn ≤ 100000 := N.out.2.2.1.turn s p G.out.2.2.2.2.2.2.2.1
  obtain ⟨t, htt⟩ : ∃ t, p.turn = t := ⟨_, rfl⟩
  rw [htt] at z1 htb
  have K1 := Lib.hid (And.intro hb1 (And.intro hw1 (And.intro hr1 (And.intro ht1 (And.intro hcs1 (And.intro hbox1 (And.intro hres1 (And.intro bs (And.intro bm (And.intro hgs (And.intro hgw htt)))))))))))
  clear hb1 hw1 hr1 ht1 hcs1 hbox1 hres1 bs bm hgs hgw htt z2 z3 z4 z5
  go_upto_region 9 with fail
  obtain ⟨w2, hw2⟩ : ∃ w2, w1.setCell ⟨b, s * 6 + 1, none⟩ (.int .i64 ((t : Int) + 1)) = w2 := ⟨_, rfl⟩
  rw [hw2]
  have t12 : Turns (fun x => x = b) w1 w2 := hw2 ▸ (Turns.refl (fun x => x = b) w1).setCell (g := b) _ _ (fun _ => rfl)
  have hcs2 : Blk w2 b 88 (cs.setIfInBounds (s * 6 + 1) (.int .i64 ((t : Int) + 1))) := hw2 ▸ K1.out.2.2.2.2.1.set_ _ _
  have hab : a ≠ b := by have := H.out.2.1; have := K1.out.2.2.2.2.2.2.2.2.2.2.1; omega
  have hrb : r ≠ b := by have := H.out.2.2.1; have := K1.out.2.2.2.2.2.2.2.2.2.2.1; omega
  have hbox2 := t12.blk K1.out.2.2.2.2.2.1 hab
  have hnd2 : NdIn w2 F ⟨A1, n1, c1, A2, n2, c2, A3, n3, c3⟩ d := by
    refine ((N.out.1.below H.out.2.2.2.1).turn K1.out.2.2.2.1 ?_).turn t12 ?_
    · rintro x hx (rfl | rfl)
      · exact N.out.2.1 _ hx N.out.2.2.2.2.pg
      · exact N.out.2.1 _ hx (N.out.2.2.2.2.pmv _ rfl)
    · rintro x hx rfl
      exact N.out.2.1 _ hx (N.out.2.2.2.2.pA _ rfl)
  have HC : Hid (Calls Tryd.prog 36 #[.agg #[.bool lf, .slice A1 n1 c1, .slice A2 n2 c2, .slice A3 n3 c3]] w2 (NdNew w2 d)) := by
    have h1 := nodeCopied_any w2 F _ d hnd2
    rw [G.out.2.2.2.2.2.2.2.2.2.2.2.2] at h1
    exact Lib.hid h1
  have y0 := hbox2.cell 0
  have y1 := hbox2.cell 1
  have y2 := hbox2.cell 2
  have y3 := hbox2.cell 3
  simp only [List.getElem?_toArray, List.getElem?_cons_zero, List.getElem?_cons_succ] at y0 y1 y2 y3
  have K2 := Lib.hid (And.intro t12 (And.intro hcs2 (And.intro hab (And.intro hrb hbox2))))
  clear hw2 t12 hcs2 hab hrb hbox2 hnd2 x0 z0 z1 ft
  go_wp2_with fail
  refine HC.out.mono ?_
  rintro e w3 ⟨⟨B1, m1, k1, B2, m2, k2, B3, m3, k3⟩, rfl, hnd3, hb3⟩
  have hcs3 := K2.out.2.1.below hb3 K2.out.2.1.lt
  clear y0 y1 y2 y3
  have hz := G.out.2.2.2.2.1
  have hsc : s < c := by have := G.out.2.2.1; have := G.out.2.2.2.2.2.2.2.2.2.2.1; omega
  have in_ : ∀ j, j < 6 → ∃ u, w3.cell? ⟨b, s * 6 + j, none⟩ = some u := fun j hj => by
    rw [hcs3.cell]
    exact ⟨_, Array.getElem?_eq_getElem (by rw [Array.size_setIfInBounds, hz]; omega)⟩
  obtain ⟨u2, y2⟩ := in_ 2 (by omega)
  obtain ⟨u3, y3⟩ := in_ 3 (by omega)
  obtain ⟨u4, y4⟩ := in_ 4 (by omega)
  obtain ⟨u5, y5⟩ := in_ 5 (by omega)
  have f2 := hcs3.frozen (s * 6 + 2)
  have f3 := hcs3.frozen (s * 6 + 3)
  have f4 := hcs3.frozen (s * 6 + 4)
  have f5 := hcs3.frozen (s * 6 + 5)
  have K3 := Lib.hid (And.intro hnd3 (And.intro hb3 (And.intro hcs3 hsc)))
  clear hnd3 hb3 hcs3 hsc hz in_
  unfold NdV.val
  have HL := G.out.2.2.2.2.2.2.2.2.2.2.2.2
  rw [HL]
  clear HL
  go_upto_region 10 with fail
  obtain ⟨w4, hw4⟩ : ∃ w4, setNode w3 b (s * 6 + 2) (.bool lf) (.slice B1 m1 k1) (.slice B2 m2 k2) (.slice B3 m3 k3) = w4 := ⟨_, rfl⟩
  change Code.wp _ _ _ _ (setNode w3 b (s * 6 + 2) (.bool lf) (.slice B1 m1 k1) (.slice B2 m2 k2) (.slice B3 m3 k3))
  rw [hw4]
  have t34 : Turns (fun x => x = b) w3 w4 := hw4 ▸ setNode_turn (Turns.refl _ _) _ _ _ _ _ (fun _ => rfl)
  have hcs4 : Blk w4 b 88 (((((cs.setIfInBounds (s * 6 + 1) (.int .i64 ((t : Int) + 1))).setIfInBounds (s * 6 + 2) (.bool lf)).setIfInBounds (s * 6 + 2 + 1) (.slice B1 m1 k1)).setIfInBounds (s * 6 + 2 + 2) (.slice B2 m2 k2)).setIfInBounds (s * 6 + 2 + 3) (.slice B3 m3 k3)) := by
    rw [← hw4]
    exact (((K3.out.2.2.1.set_ _ _).set_ _ _).set_ _ _).set_ _ _
  have hres4 : Blk w4 r 42 #[.int .i64 0, .int .i64 0] := t34.blk ((K2.out.1.blk K1.out.2.2.2.2.2.2.1 K2.out.2.2.2.1).below K3.out.2.1 (K2.out.1.blk K1.out.2.2.2.2.2.2.1 K2.out.2.2.2.1).lt) K2.out.2.2.2.1
  have hz := G.out.2.2.2.2.1
  have hsc := K3.out.2.2.2
  have h0 : cs[s * 6]? = some (.int .i64 (s : Int)) := (G.out.2.1.cell _).symm.trans (G.out.2.2.2.2.2.2.1 0 (by omega))
  have z0 : w4.cell? ⟨b, s * 6, none⟩ = some (.int .i64 (s : Int)) := by
    rw [hcs4.cell]
    simp only [Array.getElem?_setIfInBounds, Array.size_setIfInBounds]
    rw [if_neg (by omega), if_neg (by omega), if_neg (by omega), if_neg (by omega), if_neg (by omega)]
    exact h0
  have z1 : w4.cell? ⟨b, s * 6 + 1, none⟩ = some (.int .i64 ((t : Int) + 1)) := by
    rw [hcs4.cell]
    simp only [Array.getElem?_setIfInBounds, Array.size_setIfInBounds]
    rw [if_neg (by omega), if_neg (by omega), if_neg (by omega), if_neg (by omega)]
    rw [if_pos trivial, if_pos (by rw [hz]; omega)]
  have x0 := hres4.cell 0
  have x1 := hres4.cell 1
  have g0 := hres4.frozen 0
  have g1 := hres4.frozen 1
  simp only [List.getElem?_toArray, List.getElem?_cons_zero, List.getElem?_cons_succ] at x0 x1
  have K4 := Lib.hid (And.intro t34 (And.intro hcs4 (And.intro hres4 h0)))
  clear y2 y3 y4 y5 f2 f3 f4 f5 hw4 t34 hcs4 hres4 h0 hz hsc
  go_wp2_with fail
  obtain ⟨w5, hw5⟩ : ∃ w5, (w4.setCell ⟨r, 0, none⟩ (.int .i64 (s : Int))).setCell ⟨r, 1, none⟩ (.int .i64 ((t : Int) + 1)) = w5 := ⟨_, rfl⟩
  rw [hw5]
  have t45 : Turns (fun x => x = r) w4 w5 := hw5 ▸ ((Turns.refl (fun x => x = r) w4).setCell (g := r) 0 _ (fun _ => rfl)).setCell (g := r) 1 _ (fun _ => rfl)
  have hres5 : Blk w5 r 42 #[.int .i64 (s : Int), .int .i64 ((t : Int) + 1)] := hw5 ▸ (K4.out.2.2.1.set_ 0 (.int .i64 (s : Int))).set_ 1 (.int .i64 ((t : Int) + 1))
  have e0 := hres5.cell 0
  have e1 := hres5.cell 1
  simp only [List.getElem?_toArray, List.getElem?_cons_zero, List.getElem?_cons_succ] at e0 e1
  clear x0 x1 g0 g1 z0 z1
  refine bodyPost_ret (v := .agg #[.int .i64 (s : Int), .int .i64 ((t : Int) + 1)]) ?_ rfl ?_
  · simp [results, Tryd.results24, go_sem, e0, e1]
  · obtain ⟨hb1, hw1, hr1, ht1, hcs1, hbox1, hres1, bs, bm, hgs, hgw, htt⟩ := K1.out
    obtain ⟨t12, hcs2, hab, hrb, hbox2⟩ := K2.out
    obtain ⟨hnd3, hb3, hcs3, hsc⟩ := K3.out
    obtain ⟨t34, hcs4, hres4, h0⟩ := K4.out
    obtain ⟨hW, ha, hr, hB, hbox, hres, hWs⟩ := H.out
    obtain ⟨hM, hcs, hcap, hcm, hcz, hrows, hc, hp, hpu, hse, hn, hk, hlf⟩ := G.out
    obtain ⟨hv, hF, hl, hv0, h⟩ := N.out
    have hsL : s < L.length := by rw [hn]; exact hsn
    have hnx : Ar.next L = t + 1 := by rw [← htt]; exact next_free (hse ▸ hp)
    have hmk := make_free (hk ▸ hfree) d
    rw [hse] at hmk
    have s1 := ht1.size
    have s2 := t12.size
    have s3 := hb3.size
    have s4 := t34.size
    have s5 := t45.size
    have hgr : g ≠ r := by omega
    have hmr : mb ≠ r := by omega
    have hbr : b ≠ r := by omega
    have hgb : g ≠ b := fun e => bs e.symm
    have hmb : mb ≠ b := fun e => bm e.symm
    have T5 : Turns P w w5 := by
      have q0 : Turns (fun x => P x ∨ w.heap.size ≤ x) w W := Turns.of_below hB
      have q1 : Turns (fun x => P x ∨ w.heap.size ≤ x) W w1 := ht1.mono (by rintro x _ (rfl | rfl); exact .inl h.pg; exact .inl (h.pmv _ rfl))
      have q2 : Turns (fun x => P x ∨ w.heap.size ≤ x) w1 w2 := t12.mono (by rintro x _ rfl; exact .inl (h.pA _ rfl))
      have q3 : Turns (fun x => P x ∨ w.heap.size ≤ x) w2 w3 := Turns.of_below hb3
      have q4 : Turns (fun x => P x ∨ w.heap.size ≤ x) w3 w4 := t34.mono (by rintro x _ rfl; exact .inl (h.pA _ rfl))
      have q5 : Turns (fun x => P x ∨ w.heap.size ≤ x) w4 w5 := t45.mono (by rintro x _ rfl; exact .inr (by omega))
      exact (((((q0.trans q1).trans q2).trans q3).trans q4).trans q5).mono (by
        rintro x hx (hP | hP)
        · exact hP
        · omega)
    refine ⟨by rw [hse, hnx]; rfl, ⟨some b, c, some mb, f1, V.set s ⟨B1, m1, k1, B2, m2, k2, B3, m3, k3⟩, ?_⟩, T5⟩
    have hq : (Ar.make L d)[s]? = some ⟨true, t + 1, d⟩ := by
      rw [hmk, hnx]
      exact List.getElem?_set_self hsL
    have hVs : (V.set s ⟨B1, m1, k1, B2, m2, k2, B3, m3, k3⟩)[s]? = some ⟨B1, m1, k1, B2, m2, k2, B3, m3, k3⟩ := List.getElem?_set_self (by rw [hM.len]; exact hsL)
    have hoL : ∀ i, i ≠ s → (Ar.make L d)[i]? = L[i]? := fun i hi => by
      rw [hmk]
      exact List.getElem?_set_ne (fun e => hi e.symm)
    have hoV : ∀ i, i ≠ s → (V.set s ⟨B1, m1, k1, B2, m2, k2, B3, m3, k3⟩)[i]? = V[i]? := fun i hi => List.getElem?_set_ne (fun e => hi e.symm)
    have hlen : (Ar.make L d).length = n := by rw [hmk, List.length_set, hn]
    have hfn : ((freeN (Ar.make L d) : Nat) : Int) = (k : Int) - 1 := by
      have := freeN_make (hk ▸ hfree) d
      omega
    refine ⟨?_, ⟨_, t45.blk hcs4 hbr, by rw [hlen]; omega, hcm, by simp [hcz], ?_⟩, ?_, ?_, ?_, by rw [hlen, List.length_set, hM.len, hn], .inl h.pg, fun x e => .inl (h.pA x e), fun x e => .inl (h.pmv x e), ?_⟩
    · rw [hlen, hfn]
      exact t45.blk (t34.blk ((t12.blk hb1 hgb).below hb3 (t12.blk hb1 hgb).lt) hgb) hgr
    · have h1 := rows_stored (q := ⟨true, t + 1, d⟩) hsc hcz h0 hq hVs (fun i p v hi hpi hvi => hrows i p v (by rw [← hoL i hi]; exact hpi) (by rw [← hoV i hi]; exact hvi))
      have e1 : (((⟨true, t + 1, d⟩ : Ar.Pl).turn : Nat) : Int) = (t : Int) + 1 := by show ((t + 1 : Nat) : Int) = _; omega
      rw [e1, show (⟨true, t + 1, d⟩ : Ar.Pl).nd.leaf = lf from hlf] at h1
      exact h1
    · exact hw1.keep fun x e => by
        cases e
        rw [t45.block mb (by omega) hmr, t34.block mb (by omega) hmb, hb3.block mb (by omega), t12.block mb (by omega) hmb]
    · rw [Fr_make (hk ▸ hfree), hse]
      exact hr1
    · intro i p' v' hpi hvi
      by_cases hi : i = s
      · subst hi
        rw [hq] at hpi
        cases hpi
        rw [hVs] at hvi
        cases hvi
        refine ((hnd3.mono (G := fun x => w2.heap.size ≤ x ∧ x < w3.heap.size) (fun x hx hh => ⟨hh, hx⟩)).turn t34 (fun x hx e => by omega) |>.turn t45 (fun x hx e => by omega)).mono ?_
        rintro x _ ⟨hx, hx2⟩
        refine ⟨.inr ⟨by omega, by omega⟩, by omega, ?_, ?_⟩
        · intro e; injection e with e; omega
        · intro e; injection e with e; omega
      · rw [hoL i hi] at hpi
        rw [hoV i hi] at hvi
        have h1 := (h.nd i p' v' hpi hvi).mono (G := fun x => (P x ∧ x ≠ g ∧ b ≠ x ∧ mb ≠ x) ∧ x < w.heap.size) (fun x hx hh => ⟨⟨hh.1, hh.2.1, fun e => hh.2.2.1 (by rw [e]), fun e => hh.2.2.2 (by rw [e])⟩, hx⟩)
        have h2 := ((((h1.below hB).turn ht1 (by rintro x hx (e | e); exact hx.1.2.1 e; exact hx.1.2.2.2 e.symm)).turn t12 (by rintro x hx e; exact hx.1.2.2.1 e.symm)).below hb3).turn t34 (by rintro x hx e; exact hx.1.2.2.1 e.symm) |>.turn t45 (by rintro x hx e; omega)
        refine h2.mono ?_
        rintro x _ ⟨⟨hx1, hx2, hx3, hx4⟩, hx5⟩
        refine ⟨.inl hx1, hx2, ?_, ?_⟩
        · intro e; injection e with e; exact hx3 e
        · intro e; injection e with e; exact hx4 e
    · rintro x (hx | hx)
      · exact h.low x hx
      · omega
end Go.Proofs.YtgpcpjjdneimfaaDoor
