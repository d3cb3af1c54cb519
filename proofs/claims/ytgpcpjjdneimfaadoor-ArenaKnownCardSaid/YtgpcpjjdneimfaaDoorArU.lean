/- Layer 11, the program: New, Used; nil ones. -/
import Derived.Test.YtgpcpjjdneimfaaDoorArMf
namespace Go.Proofs.YtgpcpjjdneimfaaDoor
open Go.ChangeShapes Go.WideShapes Go.ChangeAt Go.RowKit

theorem arIn_new (w : World) (h : 0 < w.heap.size) : ArIn (w.alloc (.cells #[.slice none 0 0, .map none, .int .i64 0] 73)) (fun b => b = w.heap.size) w.heap.size [] := by
  refine ⟨none, 0, none, fun _ _ => 0, [], Blk.new w _ _, ⟨rfl, rfl⟩, fun _ _ => rfl, ?_, (fun i p v hp => by simp at hp), rfl, rfl, (fun b e => by cases e), (fun b e => by cases e), (fun b e => by omega)⟩
  have e : Fr [] = fun _ => False := by
    funext x
    apply propext
    exact ⟨fun ⟨p, hp, _⟩ => by simp at hp, fun e => e.elim⟩
  rw [e]
  exact Wt.rep_none
def NewP (w : World) (e : Ending) (w' : World) : Prop := e = .returned (.pointer (some ⟨w.heap.size, 0, none⟩)) ∧ w' = w.alloc (.cells #[.slice none 0 0, .map none, .int .i64 0] 73)
set_option maxRecDepth 100000 in
theorem arNew_any (w : World) : Calls Tryd.prog 10 #[] w (NewP w) := by
  go_enter Tryd.func10, Tryd.ntmps10
  go_wp2_with fail
  go_ret
  exact ⟨rfl, rfl⟩
set_option maxRecDepth 100000 in
theorem arMake_nil (w : World) (u0 u1 u2 u3 : Value) : Calls Tryd.prog 24 #[.pointer none, .agg #[u0, u1, u2, u3]] w fun e w' => e = .returned (.agg #[.int .i64 0, .int .i64 0]) ∧ Below w.heap.size w w' := by
  go_enter Tryd.func24, Tryd.ntmps24
  go_wp2_with fail
  refine bodyPost_ret (v := .agg #[.int .i64 0, .int .i64 0]) ?_ rfl ⟨rfl, ((Below.refl _ _).alloc (Nat.le_refl _) _).alloc (by simp) _⟩
  simp [results, Tryd.results24, go_sem]
set_option maxRecDepth 100000 in
theorem arGet_nil (w : World) (x1 x2 : Int) : Calls Tryd.prog 13 #[.pointer none, .agg #[.int .i64 x1, .int .i64 x2]] w fun e w' => e = .returned (.tuple #[.agg #[.bool false, .slice none 0 0, .slice none 0 0, .slice none 0 0], .int .i64 1]) ∧ Below w.heap.size w w' := by
  go_enter Tryd.func13, Tryd.ntmps13
  go_wp2_with fail
  refine (find_nil _ x1 x2).mono ?_
  rintro e w1 ⟨rfl, hb⟩
  obtain ⟨r, hr⟩ : ∃ r, w.heap.size + 1 = r := ⟨_, rfl⟩
  rw [hr]
  have hres : Blk w1 r 36 #[.bool false, .slice none 0 0, .slice none 0 0, .slice none 0 0] := by
    have := Blk.new (w.alloc (.cells #[.int .i64 x1, .int .i64 x2] 42)) 36 #[.bool false, .slice none 0 0, .slice none 0 0, .slice none 0 0]
    have h2 := this.below hb (by simp)
    rw [← hr]
    simpa using h2
  have HH := Lib.hid (And.intro hr (And.intro hb hres))
  have y0 := hres.cell 0
  have y1 := hres.cell 1
  have y2 := hres.cell 2
  have y3 := hres.cell 3
  have f0 := hres.frozen 0
  have f1 := hres.frozen 1
  have f2 := hres.frozen 2
  have f3 := hres.frozen 3
  simp only [List.getElem?_toArray, List.getElem?_cons_zero, List.getElem?_cons_succ] at y0 y1 y2 y3
  clear hr hb hres
  go_wp2_with fail
  have hU := HH.out.2.2.node (.bool false) (.slice none 0 0) (.slice none 0 0) (.slice none 0 0)
  have hT : Turns (fun b => b = r) w1 (setNode w1 r 0 (.bool false) (.slice none 0 0) (.slice none 0 0) (.slice none 0 0)) := setNode_turn (Turns.refl _ _) 0 _ _ _ _ (fun _ => rfl)
  obtain ⟨U, hUe⟩ : ∃ U, setNode w1 r 0 (.bool false) (.slice none 0 0) (.slice none 0 0) (.slice none 0 0) = U := ⟨_, rfl⟩
  rw [hUe] at hU hT
  change bodyPost _ _ _ _ _ (setNode w1 r 0 (.bool false) (.slice none 0 0) (.slice none 0 0) (.slice none 0 0))
  rw [hUe]
  have hw1 : Below w.heap.size w w1 := (((Below.refl _ _).alloc (Nat.le_refl _) _).alloc (by simp) _).trans (HH.out.2.1.mono (by simp; omega))
  have hbU : Below w.heap.size w U := ((Turns.of_below (F := fun b => b = r) hw1).then hT (fun _ _ e => e)).below (Nat.le_refl _) (fun g e => by have := HH.out.1; omega)
  have e0 := hU.cell 0
  have e1 := hU.cell 1
  have e2 := hU.cell 2
  have e3 := hU.cell 3
  simp only [List.getElem?_toArray, List.getElem?_cons_zero, List.getElem?_cons_succ] at e0 e1 e2 e3
  refine bodyPost_ret (v := .tuple #[.agg #[.bool false, .slice none 0 0, .slice none 0 0, .slice none 0 0], .int .i64 1]) ?_ rfl ⟨rfl, hbU⟩
  simp [results, Tryd.results13, go_sem, e0, e1, e2, e3]
def SliceP (w : World) (n : Nat) (l : List (Int × Int)) (e : Ending) (w' : World) : Prop := ∃ A c, e = .returned (.slice A n c) ∧ w'.ownsRow w.heap.size 42 2 (.slice A n c) n (hanL l) ∧ Below w.heap.size w w'
set_option maxRecDepth 100000 in
theorem arUsed_nil (w : World) : Calls Tryd.prog 21 #[.pointer none] w (SliceP w 0 []) := by
  go_enter Tryd.func21, Tryd.ntmps21
  go_wp2_with fail
  go_ret
  exact ⟨none, 0, rfl, own_nil _ _ _ _, Below.refl _ _⟩
theorem usedFrom_snoc (k : Nat) (L : List Ar.Pl) (p : Ar.Pl) : Ar.usedFrom k (L ++ [p]) = Ar.usedFrom k L ++ (if p.used then [(((k + L.length : Nat) : Int), (p.turn : Int))] else []) := by
  induction L generalizing k with
  | nil =>
    simp only [List.nil_append, Ar.usedFrom, List.length_nil, Nat.add_zero]
  | cons q r ih =>
    simp only [List.cons_append, Ar.usedFrom]
    rw [ih (k + 1), show k + 1 + r.length = k + (q :: r).length by rw [List.length_cons]; omega]
    split <;> simp
theorem used_take (L : List Ar.Pl) (j : Nat) (p : Ar.Pl) (hp : L[j]? = some p) : Ar.used (L.take (j + 1)) = Ar.used (L.take j) ++ (if p.used then [((j : Int), (p.turn : Int))] else []) := by
  have hj := (List.getElem?_eq_some_iff.1 hp).1
  have e : L.take (j + 1) = L.take j ++ [p] := by
    rw [List.take_succ_eq_append_getElem hj]
    rw [List.getElem?_eq_getElem hj] at hp
    rw [Option.some.inj hp]
  unfold Ar.used
  rw [e, usedFrom_snoc, List.length_take, Nat.min_eq_left (by omega), Nat.zero_add]
theorem hanL_append (a b : List (Int × Int)) : hanL (a ++ b) = hanL a ++ hanL b := by simp [hanL]
theorem cell_two' (W : World) (x0 x1 : Value) (T : TypeId) (g : Nat) (hg : g = W.heap.size) : ∀ j u, [x0, x1][j]? = some u → (W.alloc (.cells #[x0, x1] T)).cell? ((⟨g, 0, none⟩ : Addr).add j) = some u := by
  intro j u hj
  subst hg
  rw [add_at, Nat.zero_add, (Blk.new W T _).cell]
  simpa using hj
set_option maxRecDepth 100000 in
theorem arUsed_any (w : World) (P : Nat → Prop) (g : Nat) (L : List Ar.Pl) (h : ArIn w P g L) (hl : L.length ≤ 100000) : Calls Tryd.prog 21 #[.pointer (some ⟨g, 0, none⟩)] w (SliceP w (Ar.used L).length (Ar.used L)) := by
  obtain ⟨A, c, mv, f, V, h⟩ := h
  obtain ⟨n, hn⟩ : ∃ n, L.length = n := ⟨_, rfl⟩
  obtain ⟨i0, hi, hz0, hz1, hz2⟩ := info_parts Tryd.info42
  have x0 := h.blk.cell 0
  simp only [List.getElem?_toArray, List.getElem?_cons_zero] at x0
  rw [hn] at x0 hl
  have H := Lib.hid (And.intro h hn)
  have HI := Lib.hid (And.intro hi (And.intro hz0 (And.intro hz1 hz2)))
  clear h hn hi hz0 hz1 hz2
  go_enter Tryd.func21, Tryd.ntmps21
  go_wp2_with fail
  rename World => w
  go_loopw [3, 12] (fun r i wr => ∃ j : Nat, j ≤ n ∧ i = .int .i64 (j : Int) ∧ wr.ownsRow w.heap.size 42 2 r (Ar.used (L.take j)).length (hanL (Ar.used (L.take j))) ∧ Below w.heap.size w wr) (fun _ i _ => n - (intOf i).toNat)
  case atStart => exact ⟨0, by omega, rfl, own_nil _ _ _ _, Below.refl _ _⟩
  case round =>
    obtain ⟨j, hj, rfl, hown, hbel⟩ := hrel
    by_cases hlt : j < n
    · have hp : L[j]? = some (L[j]'(by rw [H.out.2]; exact hlt)) := List.getElem?_eq_getElem _
      obtain ⟨p, hpe⟩ : ∃ p, L[j]'(by rw [H.out.2]; exact hlt) = p := ⟨_, rfl⟩
      rw [hpe] at hp
      have hM := H.out.1.below hbel
      have HW := Lib.hid (hM.waits hp (by rw [H.out.2]; omega))
      have i1 : (0 : Int) ≤ (j : Int) := by omega
      have i2 : (j : Int) < (n : Int) := by omega
      have ht := used_take L j p hp
      have y0 : wr.cell? ⟨g, 0, none⟩ = some (.slice (adOf A) n c) := by
        have := hM.blk.cell 0
        rw [H.out.2] at this
        exact this
      obtain ⟨b, v0, rfl, hv0, hc⟩ := hM.at_ hp
      obtain ⟨z0, z1, z2, z3, z4, z5⟩ := fits_nodeIn hc
      obtain ⟨u, hu⟩ : ∃ u, p.used = u := ⟨_, rfl⟩
      rw [hu] at HW ht
      have hle : (Ar.used (L.take j)).length ≤ j := by
        rw [Ar.used_length]
        exact Nat.le_trans (List.countP_le_length) (by rw [List.length_take]; omega)
      obtain ⟨k, hk⟩ : ∃ k, (Ar.used (L.take j)).length = k := ⟨_, rfl⟩
      rw [hk] at hown hle
      have HK := Lib.hid (And.intro hown (And.intro hbel (And.intro ht (And.intro hk hle))))
      clear hown hbel ht hk hM hp hpe hc hu z2 z3 z4 z5 hv0 x0
      cases u
      · go_wp2_with fail
        refine HW.out.mono ?_
        rintro e w1 ⟨rfl, rfl⟩
        go_wp2_with fail
        refine ⟨⟨j + 1, by omega, by go_num, ?_, HK.out.2.1⟩, by simp [intOf]; omega⟩
        have h1 := HK.out.2.2.1
        simp only [Bool.false_eq_true, if_false, List.append_nil] at h1
        rw [h1, HK.out.2.2.2.1]
        exact HK.out.1
      · go_wp2_with fail
        refine HW.out.mono ?_
        rintro e w1 ⟨rfl, rfl⟩
        replace y0 : wr.cell? ⟨g, 0, none⟩ = some (.slice (some ⟨b, 0, none⟩) n c) := y0
        go_wp2_with (at_builtin; refine wpList_append_own _ rfl _ _ 33 rfl w.heap.size 42 i0 _ 2 16 Tryd.underlying33 HI.out.1 HI.out.2.1 HI.out.2.2.1 HI.out.2.2.2 rfl (by decide) _ k _ rfl (HK.out.1.alloc _) ⟨wr.heap.size, 0, none⟩ 1 1 [.int .i64 (j : Int), .int .i64 (p.turn : Int)] rfl rfl (cell_two' _ _ _ _ _ rfl) (by simp [Value.oneCell']) (by unfold maxLen; have := HK.out.2.2.2.2; omega) (by have := HK.out.2.2.2.2; omega) (by have := HK.out.2.1.size; simp; omega) ?_)
        intro v' w1 hown1 hgr _
        have hbel1 : Below w.heap.size w w1 := grow_below HK.out.2.1 hgr (fun g' hg' => (HK.out.1.lt g' hg').1)
        have HO := Lib.hid (And.intro hown1 hbel1)
        clear hown1 hgr hbel1
        go_wp2_with fail
        refine ⟨⟨j + 1, by omega, by go_num, ?_, HO.out.2⟩, by simp [intOf]; omega⟩
        have h1 := HK.out.2.2.1
        simp only [if_true] at h1
        rw [h1, hanL_append, List.length_append, HK.out.2.2.2.1]
        exact HO.out.1
    · obtain rfl : j = n := by omega
      rw [List.take_of_length_le (by rw [H.out.2]; exact Nat.le_refl _)] at hown
      obtain ⟨A', c', rfl⟩ := own_slice hown
      have HK := Lib.hid (And.intro hown hbel)
      clear hown hbel
      go_wp2_with fail
      go_ret
      exact ⟨A', c', rfl, HK.out.1, HK.out.2⟩
end Go.Proofs.YtgpcpjjdneimfaaDoor
