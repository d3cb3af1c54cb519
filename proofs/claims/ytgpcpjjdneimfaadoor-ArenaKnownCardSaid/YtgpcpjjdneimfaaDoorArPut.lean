/- Layer 11, the program: Put. -/
import Derived.Test.YtgpcpjjdneimfaaDoorArS
namespace Go.Proofs.YtgpcpjjdneimfaaDoor
open Go.ChangeShapes Go.WideShapes Go.ChangeAt Go.RowKit

theorem two_made2 (w : World) (x1 x2 : Int) (u0 u1 u2 u3 : Value) : ∃ W a r, (w.alloc (.cells #[.int .i64 x1, .int .i64 x2] 42)).alloc (.cells #[u0, u1, u2, u3] 36) = W ∧ w.heap.size = a ∧ w.heap.size + 1 = r ∧ Below w.heap.size w W ∧ Blk W a 42 #[.int .i64 x1, .int .i64 x2] ∧ Blk W r 36 #[u0, u1, u2, u3] ∧ W.heap.size = w.heap.size + 2 := by
  refine ⟨_, _, _, rfl, rfl, rfl, ((Below.refl _ _).alloc (Nat.le_refl _) _).alloc (by simp) _, (Blk.new w _ _).below ((Below.refl _ _).alloc (Nat.le_refl _) _) (by simp), ?_, by simp⟩
  have := Blk.new (w.alloc (.cells #[.int .i64 x1, .int .i64 x2] 42)) 36 #[u0, u1, u2, u3]
  simpa using this
set_option maxRecDepth 100000 in
theorem arPut_nil (w : World) (x1 x2 : Int) (u0 u1 u2 u3 : Value) : Calls Tryd.prog 26 #[.pointer none, .agg #[.int .i64 x1, .int .i64 x2], .agg #[u0, u1, u2, u3]] w fun e w' => e = .returned (.int .i64 1) ∧ Below w.heap.size w w' := by
  obtain ⟨W, a, r, hW, ha, hr, hB, hbox, hnode, hWs⟩ := two_made2 w x1 x2 u0 u1 u2 u3
  have H := Lib.hid (And.intro hW (And.intro ha (And.intro hr (And.intro hB hbox))))
  have d0 := hbox.cell 0
  have d1 := hbox.cell 1
  simp only [List.getElem?_toArray, List.getElem?_cons_zero, List.getElem?_cons_succ] at d0 d1
  clear hW ha hr hB hbox hnode hWs
  go_enter Tryd.func26, Tryd.ntmps26
  go_upto_region 1 with fail
  rw [H.out.1, H.out.2.2.1, H.out.2.1]
  go_wp2_with fail
  refine (find_nil _ x1 x2).mono ?_
  rintro e w1 ⟨rfl, hb⟩
  have HB := Lib.hid hb
  clear hb
  go_wp2_with fail
  go_ret
  exact ⟨rfl, H.out.2.2.2.1.trans (HB.out.mono H.out.2.2.2.1.size)⟩
def PutP (w : World) (P : Nat → Prop) (g : Nat) (L : List Ar.Pl) (x : Int × Int) (d : Ar.Nd) (e : Ending) (w' : World) : Prop :=
  (∃ (i : Nat) (p : Ar.Pl), x = ((i : Int), (p.turn : Int)) ∧ L[i]? = some p ∧ p.used = true ∧ e = .returned (.int .i64 0) ∧ ArIn w' (grow P w w') g (L.set i ⟨true, p.turn, d⟩) ∧ Turns P w w') ∨
  (Ar.has L x = false ∧ e = .returned (.int .i64 110) ∧ Below w.heap.size w w')
/-- A used place has another node. -/
theorem ArMem.putOne {w w1 w2 : World} {P : Nat → Prop} {g : Nat} {L : List Ar.Pl} {b c : Nat} {mv : Option Nat} {f : Nat → Nat → Nat} {V : List NdV} (h : ArMem w P g L (some b) c mv f V) {i : Nat} {p : Ar.Pl} (hp : L[i]? = some p) (hu : p.used = true) (d : Ar.Nd) (v : NdV)
    (hB : Below w.heap.size w w1) (hnd : NdIn w1 (fun x => w.heap.size ≤ x) v d) (hw2 : setNode w1 b (i * 6 + 2) (.bool d.leaf) (.slice v.A1 v.n1 v.c1) (.slice v.A2 v.n2 v.c2) (.slice v.A3 v.n3 v.c3) = w2) :
    ArIn w2 (grow P w w2) g (L.set i ⟨true, p.turn, d⟩) ∧ Turns P w w2 := by
  have hi : i < L.length := (List.getElem?_eq_some_iff.1 hp).1
  have h1 := h.below hB
  obtain ⟨cs, hcs, hcap, hcm, hcz, hrows⟩ := h1.cells
  obtain ⟨cs0, hcs0, -⟩ := h.cells
  have hbg : b ≠ g := hcs.kind h1.blk (by decide)
  have hbm : mv ≠ some b := by
    rintro rfl
    exact h1.words.ne hcs rfl
  have t12 : Turns (fun x => x = b) w1 w2 := hw2 ▸ setNode_turn (Turns.refl _ _) _ _ _ _ _ (fun _ => rfl)
  have hcs2 : Blk w2 b 88 ((((cs.setIfInBounds (i * 6 + 2) (.bool d.leaf)).setIfInBounds (i * 6 + 2 + 1) (.slice v.A1 v.n1 v.c1)).setIfInBounds (i * 6 + 2 + 2) (.slice v.A2 v.n2 v.c2)).setIfInBounds (i * 6 + 2 + 3) (.slice v.A3 v.n3 v.c3)) := by
    rw [← hw2]
    exact (((hcs.set_ _ _).set_ _ _).set_ _ _).set_ _ _
  have s1 := hB.size
  have s2 := t12.size
  have hgl := h.blk.lt
  have hbl := hcs0.lt
  obtain ⟨v0, hv0⟩ := h.view hp
  have T : Turns P w w2 := (Turns.of_below hB).trans (t12.mono (by rintro x _ rfl; exact h.pA _ rfl))
  refine ⟨⟨some b, c, mv, f, V.set i v, ?_⟩, T⟩
  have hset : ∀ j, j ≠ i → (L.set i ⟨true, p.turn, d⟩)[j]? = L[j]? := fun j hj => List.getElem?_set_ne (fun e => hj e.symm)
  have hsetV : ∀ j, j ≠ i → (V.set i v)[j]? = V[j]? := fun j hj => List.getElem?_set_ne (fun e => hj e.symm)
  have hq : (L.set i ⟨true, p.turn, d⟩)[i]? = some ⟨true, p.turn, d⟩ := List.getElem?_set_self hi
  have hqV : (V.set i v)[i]? = some v := List.getElem?_set_self (by rw [h.len]; exact hi)
  have e2 : L[i] = p := by
    rw [List.getElem?_eq_getElem hi] at hp
    exact Option.some.inj hp
  have hfn : freeN (L.set i ⟨true, p.turn, d⟩) = freeN L := by
    have e1 := freeN_set (L := L) (s := i) (p := ⟨true, p.turn, d⟩) hi
    rw [e2, hu] at e1
    simp only [if_true] at e1
    omega
  have hfr : Fr (L.set i ⟨true, p.turn, d⟩) = Fr L := by
    funext x
    apply propext
    by_cases e : x = i
    · subst e
      constructor
      · rintro ⟨q, hq', hu'⟩
        rw [hq] at hq'
        cases hq'
        cases hu'
      · rintro ⟨q, hq', hu'⟩
        rw [hp] at hq'
        cases hq'
        rw [hu] at hu'
        cases hu'
    · unfold Fr
      rw [hset x e]
  refine ⟨?_, ⟨_, hcs2, by rw [List.length_set]; exact hcap, hcm, by simp [hcz], ?_⟩, ?_, ?_, ?_, by rw [List.length_set, List.length_set, h.len], .inl h.pg, fun x e => .inl (h.pA x e), fun x e => .inl (h.pmv x e), grow_low (by omega) h.low⟩
  · rw [List.length_set, hfn]
    exact t12.blk h1.blk (fun e => hbg e.symm)
  · exact rows_node (q := ⟨true, p.turn, d⟩) (v' := v) (by omega) hcz (hrows i p v0 hp hv0 0 (by omega)) (hrows i p v0 hp hv0 1 (by omega)) hq hqV (fun j q v hj hpj hvj => hrows j q v (by rw [← hset j hj]; exact hpj) (by rw [← hsetV j hj]; exact hvj))
  · exact h1.words.keep fun mb e => t12.block mb (by subst e; exact h1.words.lt) (by rintro rfl; exact hbm e)
  · rw [hfr]
    exact h.rep
  · intro j q v' hpj hvj
    by_cases hj : j = i
    · subst hj
      rw [hq] at hpj
      cases hpj
      rw [hqV] at hvj
      cases hvj
      refine ((hnd.mono (G := fun x => w.heap.size ≤ x ∧ x < w1.heap.size) (fun x hx hh => ⟨hh, hx⟩)).turn t12 (fun x hx e => by omega)).mono ?_
      rintro x _ ⟨hx, hx2⟩
      refine ⟨.inr ⟨hx, by omega⟩, by omega, ?_, ?_⟩
      · intro e; injection e with e; omega
      · rintro rfl
        have := h.words.lt
        omega
    · rw [hset j hj] at hpj
      rw [hsetV j hj] at hvj
      exact (((h.nd j q v' hpj hvj).below hB).turn t12 (by rintro x hx rfl; exact hx.2.2.1 rfl)).mono (fun x _ hx => ⟨.inl hx.1, hx.2⟩)
set_option maxRecDepth 100000 in
theorem arPut_any (w : World) (P F : Nat → Prop) (g : Nat) (L : List Ar.Pl) (h : ArIn w P g L) (v : NdV) (d : Ar.Nd) (hv : NdIn w F v d) (hl : L.length ≤ 1000000) (x1 x2 : Int) :
    Calls Tryd.prog 26 #[.pointer (some ⟨g, 0, none⟩), .agg #[.int .i64 x1, .int .i64 x2], v.val d.leaf] w (PutP w P g L (x1, x2) d) := by
  obtain ⟨A1, n1, c1, A2, n2, c2, A3, n3, c3⟩ := v
  obtain ⟨lf, hlf⟩ : ∃ lf, d.leaf = lf := ⟨_, rfl⟩
  obtain ⟨A, c, mv, f, V, h⟩ := h
  obtain ⟨W, a, r, hW, ha, hr, hB, hbox, hnode, hWs⟩ := two_made2 w x1 x2 (.bool lf) (.slice A1 n1 c1) (.slice A2 n2 c2) (.slice A3 n3 c3)
  have hM := h.below hB
  have hF := Lib.hid (hM.find hl x1 x2)
  have H := Lib.hid (And.intro hW (And.intro ha (And.intro hr (And.intro hB (And.intro hbox (And.intro hnode (And.intro hM (And.intro hv (And.intro hlf h)))))))))
  have d0 := hbox.cell 0
  have d1 := hbox.cell 1
  simp only [List.getElem?_toArray, List.getElem?_cons_zero, List.getElem?_cons_succ] at d0 d1
  unfold NdV.val
  rw [hlf]
  clear hW ha hr hB hbox hnode hWs hM hv hlf h
  go_enter Tryd.func26, Tryd.ntmps26
  go_upto_region 1 with fail
  rw [H.out.1, H.out.2.2.1, H.out.2.1]
  go_wp2_with fail
  refine hF.out.mono ?_
  rintro e w1 (⟨hh, b, rfl, rfl, hb⟩ | ⟨hh, rfl, hb⟩)
  · obtain ⟨i, p, e1, hp, ht, hu⟩ := (has_iff L x1 x2).1 hh
    subst e1 ht
    clear d0 d1
    have hnode1 := H.out.2.2.2.2.2.1.below hb H.out.2.2.2.2.2.1.lt
    have y0 := hnode1.cell 0
    have y1 := hnode1.cell 1
    have y2 := hnode1.cell 2
    have y3 := hnode1.cell 3
    simp only [List.getElem?_toArray, List.getElem?_cons_zero, List.getElem?_cons_succ] at y0 y1 y2 y3
    have hM1 := H.out.2.2.2.2.2.2.1.below hb
    have hnd1 := (H.out.2.2.2.2.2.2.2.1.below H.out.2.2.2.1).below hb
    have HC : Hid (Calls Tryd.prog 36 #[.agg #[.bool lf, .slice A1 n1 c1, .slice A2 n2 c2, .slice A3 n3 c3]] w1 (NdNew w1 d)) := by
      have h1 := nodeCopied_any w1 F _ d hnd1
      rw [H.out.2.2.2.2.2.2.2.2.1] at h1
      exact Lib.hid h1
    have HK := Lib.hid (And.intro hp (And.intro hu (And.intro hb hM1)))
    clear hp hu hb hM1 hnd1 hnode1 hh
    go_wp2_with fail
    refine HC.out.mono ?_
    rintro e w2 ⟨⟨B1, m1, k1, B2, m2, k2, B3, m3, k3⟩, rfl, hnd2, hb2⟩
    have hM2 := HK.out.2.2.2.below hb2
    obtain ⟨cs, hcs, hcap, hcm, hcz, -⟩ := hM2.cells
    have hil : i < L.length := (List.getElem?_eq_some_iff.1 HK.out.1).1
    have in_ : ∀ j, j < 6 → ∃ u, w2.cell? ⟨b, i * 6 + j, none⟩ = some u := fun j hj => by
      rw [hcs.cell]
      exact ⟨_, Array.getElem?_eq_getElem (by rw [hcz]; omega)⟩
    obtain ⟨u2, z2⟩ := in_ 2 (by omega)
    obtain ⟨u3, z3⟩ := in_ 3 (by omega)
    obtain ⟨u4, z4⟩ := in_ 4 (by omega)
    obtain ⟨u5, z5⟩ := in_ 5 (by omega)
    have f2 := hcs.frozen (i * 6 + 2)
    have f3 := hcs.frozen (i * 6 + 3)
    have f4 := hcs.frozen (i * 6 + 4)
    have f5 := hcs.frozen (i * 6 + 5)
    have HN := Lib.hid (And.intro hnd2 hb2)
    clear hnd2 hb2 hM2 hcs hcap hcm hcz hil in_ y0 y1 y2 y3
    unfold NdV.val
    have HL := H.out.2.2.2.2.2.2.2.2.1
    rw [HL]
    clear HL
    go_wp2_with fail
    go_ret
    obtain ⟨hp, hu, hb, hM1⟩ := HK.out
    obtain ⟨hnd2, hb2⟩ := HN.out
    obtain ⟨w3, hw3⟩ : ∃ w3, setNode w2 b (i * 6 + 2) (.bool lf) (.slice B1 m1 k1) (.slice B2 m2 k2) (.slice B3 m3 k3) = w3 := ⟨_, rfl⟩
    change PutP w P g L _ d _ (setNode w2 b (i * 6 + 2) (.bool lf) (.slice B1 m1 k1) (.slice B2 m2 k2) (.slice B3 m3 k3))
    rw [hw3]
    have hq : ArIn w3 (grow P w1 w3) g (L.set i ⟨true, p.turn, d⟩) ∧ Turns P w1 w3 := hM1.putOne hp hu d ⟨B1, m1, k1, B2, m2, k2, B3, m3, k3⟩ hb2 hnd2 (by rw [H.out.2.2.2.2.2.2.2.2.1]; exact hw3)
    have hw1 : Below w.heap.size w w1 := H.out.2.2.2.1.trans (hb.mono H.out.2.2.2.1.size)
    have s1 := hw1.size
    refine .inl ⟨i, p, rfl, hp, hu, rfl, hq.1.mono ?_ (grow_low (by have := H.out.2.2.2.2.2.2.2.2.2.blk.lt; omega) H.out.2.2.2.2.2.2.2.2.2.low), (Turns.of_below hw1).trans (hq.2.mono (fun _ _ h => h))⟩
    rintro y (hy | ⟨hy, hy2⟩)
    · exact .inl hy
    · exact .inr ⟨by omega, hy2⟩
  · have HB := Lib.hid (And.intro hh hb)
    clear hh hb
    go_wp2_with fail
    go_ret
    exact .inr ⟨HB.out.1, rfl, H.out.2.2.2.1.trans (HB.out.2.mono H.out.2.2.2.1.size)⟩
end Go.Proofs.YtgpcpjjdneimfaaDoor
