/- ArenaPlays: the reference's Same. -/
import Derived.Test.YtgpcpjjdneimfaaDoorM11M
import Derived.StillTailTactics
namespace Go.Proofs.YtgpcpjjdneimfaaDoor
open Go.ChangeShapes Go.WideShapes Go.ChangeAt Go.RowKit

def SameP (w : World) (d d' : Ar.Nd) (e : Ending) (w' : World) : Prop := (∃ b : Bool, e = .returned (.bool b) ∧ (b = true ↔ d = d')) ∧ Below w.heap.size w w'
theorem same_made (w : World) (u0 u1 u2 u3 v0 v1 v2 v3 : Value) : ∃ W a r, (w.alloc (.cells #[u0, u1, u2, u3] 48)).alloc (.cells #[v0, v1, v2, v3] 48) = W ∧ w.heap.size = a ∧ w.heap.size + 1 = r ∧ Below w.heap.size w W ∧ Blk W a 48 #[u0, u1, u2, u3] ∧ Blk W r 48 #[v0, v1, v2, v3] := by
  have H1 := (Held.start w).new #[u0, u1, u2, u3] 48
  have H2 := H1.new #[v0, v1, v2, v3] 48
  simp only [show ∀ (X : World) (o : Obj), (X.alloc o).heap.size = X.heap.size + 1 from fun X o => by simp] at H2
  exact ⟨_, _, _, rfl, rfl, rfl, H2.1, H2.at_ (by simp), H2.at_ (by simp)⟩
theorem bytes_ne {a b : ByteArray} (h : a ≠ b) : (a.toList == b.toList) = false := by
  rw [beq_eq_false_iff_ne]
  intro e
  rw [ByteArray.toList_eq, ByteArray.toList_eq] at e
  exact h (ByteArray.ext (Array.ext' e))
theorem rhandle_guard : Tryd.prog.eqGuardType Tryd.prog.depth 51 = false := by kernel_rfl
theorem rhandle_same (a b x y : Int) (w : World) : (Op.equalIn 10000 51 (.agg #[.int .i64 a, .int .i64 b]) (.agg #[.int .i64 x, .int .i64 y])).run Tryd.prog w = .ok (decide (a = x) && decide (b = y)) w := by
  have hS : Tryd.prog.underlying 51 = some (.struct (Tryd.prog.fieldsOf 51)) := by kernel_rfl
  have hp : Tryd.prog.stoodInHeld 51 = false := by kernel_rfl
  rw [show (10000 : Nat) = 9999 + 1 from rfl, run_equalIn_agg w 9999 51 _ _ hS hp]
  simp only [Program.fieldsOf, Tryd.underlying51]
  go_simp
  (repeat' split) <;> simp [*]
set_option maxRecDepth 100000 in
set_option maxHeartbeats 8000000 in
theorem refSame_any (w : World) (F F' : Nat → Prop) (v v' : NdV) (d d' : Ar.Nd) (h : NdIn w F v d) (h' : NdIn w F' v' d') : Calls Tryd.prog 16 #[v.val d.leaf, v'.val d'.leaf] w (SameP w d d') := by
  obtain ⟨A1, n1, c1, A2, n2, c2, A3, n3, c3⟩ := v
  obtain ⟨B1, m1, k1, B2, m2, k2, B3, m3, k3⟩ := v'
  obtain ⟨lf, hlf⟩ : ∃ lf, d.leaf = lf := ⟨_, rfl⟩
  obtain ⟨lg, hlg⟩ : ∃ lg, d'.leaf = lg := ⟨_, rfl⟩
  obtain ⟨W, a, r, hW, ha, hr, hB, hbox, hbox'⟩ := same_made w (.bool lf) (.slice A1 n1 c1) (.slice A2 n2 c2) (.slice A3 n3 c3) (.bool lg) (.slice B1 m1 k1) (.slice B2 m2 k2) (.slice B3 m3 k3)
  have H := Lib.hid (And.intro hW (And.intro ha (And.intro hr (And.intro hB (And.intro hbox (And.intro hbox' (And.intro hlf hlg)))))))
  have HN := Lib.hid (And.intro (h.below hB) (h'.below hB))
  have a0 := hbox.cell 0
  have a1 := hbox.cell 1
  have a2 := hbox.cell 2
  have a3 := hbox.cell 3
  have b0 := hbox'.cell 0
  have b1 := hbox'.cell 1
  have b2 := hbox'.cell 2
  have b3 := hbox'.cell 3
  simp only [List.getElem?_toArray, List.getElem?_cons_zero, List.getElem?_cons_succ] at a0 a1 a2 a3 b0 b1 b2 b3
  show Calls Tryd.prog _ #[.agg #[.bool d.leaf, .slice A1 n1 c1, .slice A2 n2 c2, .slice A3 n3 c3], .agg #[.bool d'.leaf, .slice B1 m1 k1, .slice B2 m2 k2, .slice B3 m3 k3]] w _
  rw [hlf, hlg]
  have hn1 : n1 ≤ 1000000 := h.few1
  have hn2 : n2 ≤ 1000000 := h.few2
  have hn3 : n3 ≤ 1000000 := h.few3
  clear hW ha hr hB hbox hbox' hlf hlg h h'
  go_enter Tryd.func16, Tryd.ntmps16
  go_upto_region 1 with fail
  rw [H.out.1, H.out.2.2.1, H.out.2.1]
  by_cases hl : lf = lg
  · subst hl
    by_cases h1 : n1 = m1
    · subst h1
      by_cases h2 : n2 = m2
      · subst h2
        by_cases h3 : n3 = m3
        · subst h3
          go_wp2_with fail
          go_loopw [5] (fun i wr => ∃ j : Nat, j ≤ n1 ∧ i = .int .i64 (j : Int) ∧ Below W.heap.size W wr ∧ ∀ k, k < j → d.keys[k]? = d'.keys[k]?) (fun i _ => n1 - (intOf i).toNat)
          case atStart => exact ⟨0, by omega, rfl, Below.refl _ _, fun k hk => by omega⟩
          case round =>
            obtain ⟨j, hj, rfl, hbel, heq⟩ := hrel
            have hbox := H.out.2.2.2.2.1.below hbel H.out.2.2.2.2.1.lt
            have hbox' := H.out.2.2.2.2.2.1.below hbel H.out.2.2.2.2.2.1.lt
            clear a0 a1 a2 a3 b0 b1 b2 b3
            have a1 := hbox.cell 1
            have a2 := hbox.cell 2
            have a3 := hbox.cell 3
            have b1 := hbox'.cell 1
            have b2 := hbox'.cell 2
            have b3 := hbox'.cell 3
            simp only [List.getElem?_toArray, List.getElem?_cons_zero, List.getElem?_cons_succ] at a1 a2 a3 b1 b2 b3
            have i1 : (0 : Int) ≤ (j : Int) := by omega
            by_cases hlt : j < n1
            · have i2 : (j : Int) < (n1 : Int) := by omega
              obtain ⟨x, hx⟩ : ∃ x, d.keys[j]? = some x := ⟨_, List.getElem?_eq_getElem (by rw [HN.out.1.len1]; exact hlt)⟩
              obtain ⟨y, hy⟩ : ∃ y, d'.keys[j]? = some y := ⟨_, List.getElem?_eq_getElem (by rw [HN.out.2.len1]; exact hlt)⟩
              obtain ⟨p, off, hA, -, -, hc⟩ := (HN.out.1.keys.below hbel).at_ hlt
              obtain ⟨q, off', hA', -, -, hc'⟩ := (HN.out.2.keys.below hbel).at_ hlt
              have hx2 : (strL d.keys)[j]? = some (Value.string x) := by simp [strL, hx]
              have hy2 : (strL d'.keys)[j]? = some (Value.string y) := by simp [strL, hy]
              have z0 := hc 0 (by omega)
              have z2 := hc' 0 (by omega)
              simp only [Nat.mul_one, Nat.add_zero] at z0 z2
              rw [hx2] at z0
              rw [hy2] at z2
              subst hA
              subst hA'
              have HK := Lib.hid (And.intro hbel (And.intro heq (And.intro hx hy)))
              clear hbel heq hx hy hbox hbox' hc hc' hx2 hy2
              by_cases hxe : x = y
              · as_aux_lemma =>
                have hq : (x.toList == y.toList) = true := by rw [hxe]; simp
                have hq2 : (x.toList != y.toList) = false := by rw [hxe]; simp
                go_wp2_with fail
                go_still_tail 10, (by kernel_rfl)
                change wpList _ _ _ _ _ wr.drew
                obtain ⟨w2, hw2⟩ : ∃ w2, wr.drew = w2 := ⟨_, rfl⟩
                have hb2 : Hid (Below W.heap.size W w2) := Lib.hid (hw2 ▸ HK.out.1.drew)
                rw [hw2]
                clear hw2
                go_wp2_with fail
                refine ⟨⟨j + 1, by omega, by go_num, hb2.out, fun k hk => ?_⟩, by simp [intOf]; omega⟩
                rcases Nat.lt_or_ge k j with hkj | hkj
                · exact HK.out.2.1 k hkj
                · obtain rfl : k = j := by omega
                  rw [HK.out.2.2.1, HK.out.2.2.2, hxe]
              · as_aux_lemma =>
                have hq : (x.toList == y.toList) = false := bytes_ne hxe
                have hq2 : (x.toList != y.toList) = true := by rw [bne, hq]; rfl
                go_wp2_with fail
                go_still_tail 10, (by kernel_rfl)
                change wpList _ _ _ _ _ wr.drew
                obtain ⟨w2, hw2⟩ : ∃ w2, wr.drew = w2 := ⟨_, rfl⟩
                have hb2 : Hid (Below W.heap.size W w2) := Lib.hid (hw2 ▸ HK.out.1.drew)
                rw [hw2]
                clear hw2
                go_wp2_with fail
                go_ret
                refine ⟨⟨false, rfl, (by intro e; cases e), fun e => absurd ?_ hxe⟩, H.out.2.2.2.1.trans (hb2.out.mono H.out.2.2.2.1.size)⟩
                have h5 := HK.out.2.2.1
                rw [e, HK.out.2.2.2] at h5
                exact (Option.some.inj h5).symm
            · as_aux_lemma =>
              obtain rfl : j = n1 := by omega
              have hall : d.keys = d'.keys := by
                apply List.ext_getElem?
                intro k
                rcases Nat.lt_or_ge k j with hk | hk
                · exact heq k hk
                · rw [List.getElem?_eq_none (by rw [HN.out.1.len1]; exact hk), List.getElem?_eq_none (by rw [HN.out.2.len1]; exact hk)]
              have HE1 := Lib.hid (And.intro hbel hall)
              clear hbel heq hall hbox hbox'
              go_wp2_with fail
              go_loopw [6] (fun i wr => ∃ j : Nat, j ≤ n2 ∧ i = .int .i64 (j : Int) ∧ Below W.heap.size W wr ∧ ∀ k, k < j → d.kids[k]? = d'.kids[k]?) (fun i _ => n2 - (intOf i).toNat)
              case atStart => exact ⟨0, by omega, rfl, HE1.out.1, fun k hk => by omega⟩
              case round =>
                obtain ⟨j, hj, rfl, hbel, heq⟩ := hrel
                have hbox := H.out.2.2.2.2.1.below hbel H.out.2.2.2.2.1.lt
                have hbox' := H.out.2.2.2.2.2.1.below hbel H.out.2.2.2.2.2.1.lt
                clear a1 a2 a3 b1 b2 b3
                have a1 := hbox.cell 1
                have a2 := hbox.cell 2
                have a3 := hbox.cell 3
                have b1 := hbox'.cell 1
                have b2 := hbox'.cell 2
                have b3 := hbox'.cell 3
                simp only [List.getElem?_toArray, List.getElem?_cons_zero, List.getElem?_cons_succ] at a1 a2 a3 b1 b2 b3
                have i1 : (0 : Int) ≤ (j : Int) := by omega
                by_cases hlt : j < n2
                · have i2 : (j : Int) < (n2 : Int) := by omega
                  obtain ⟨x, hx⟩ : ∃ x, d.kids[j]? = some x := ⟨_, List.getElem?_eq_getElem (by rw [HN.out.1.len2]; exact hlt)⟩
                  obtain ⟨y, hy⟩ : ∃ y, d'.kids[j]? = some y := ⟨_, List.getElem?_eq_getElem (by rw [HN.out.2.len2]; exact hlt)⟩
                  obtain ⟨p, off, hA, -, -, hc⟩ := (HN.out.1.kids.below hbel).at_ hlt
                  obtain ⟨q, off', hA', -, -, hc'⟩ := (HN.out.2.kids.below hbel).at_ hlt
                  have hx2 := hanL_at _ j x hx
                  have hy2 := hanL_at _ j y hy
                  obtain ⟨x1, x2⟩ := x
                  obtain ⟨y1, y2⟩ := y
                  have z0 := (hc 0 (by omega)).trans hx2.1
                  have z1 := (hc 1 (by omega)).trans hx2.2
                  have z2 := (hc' 0 (by omega)).trans hy2.1
                  have z3 := (hc' 1 (by omega)).trans hy2.2
                  simp only [Nat.add_zero] at z0 z2
                  simp only at z0 z1 z2 z3
                  have hxy : ((x1, x2) = (y1, y2)) ↔ (x1 = y1 ∧ x2 = y2) := by simp
                  subst hA
                  subst hA'
                  have HK := Lib.hid (And.intro hbel (And.intro heq (And.intro hx hy)))
                  clear hbel heq hx hy hbox hbox' hc hc' hx2 hy2
                  by_cases hxe : (x1, x2) = (y1, y2)
                  · as_aux_lemma =>
                    have g1 := rhandle_guard
                    have q1 : ∀ W, (Op.equalIn 10000 51 (.agg #[.int .i64 x1, .int .i64 x2]) (.agg #[.int .i64 y1, .int .i64 y2])).run Tryd.prog W = .ok true W := fun W => by rw [rhandle_same, decide_eq_true (hxy.1 hxe).1, decide_eq_true (hxy.1 hxe).2]; rfl
                    go_wp2_with fail
                    go_still_tail 10, (by kernel_rfl)
                    change wpList _ _ _ _ _ wr.drew
                    obtain ⟨w2, hw2⟩ : ∃ w2, wr.drew = w2 := ⟨_, rfl⟩
                    have hb2 : Hid (Below W.heap.size W w2) := Lib.hid (hw2 ▸ HK.out.1.drew)
                    rw [hw2]
                    clear hw2
                    go_wp2_with fail
                    refine ⟨⟨j + 1, by omega, by go_num, hb2.out, fun k hk => ?_⟩, by simp [intOf]; omega⟩
                    rcases Nat.lt_or_ge k j with hkj | hkj
                    · exact HK.out.2.1 k hkj
                    · obtain rfl : k = j := by omega
                      rw [HK.out.2.2.1, HK.out.2.2.2, hxe]
                  · as_aux_lemma =>
                    have g1 := rhandle_guard
                    have q1 : ∀ W, (Op.equalIn 10000 51 (.agg #[.int .i64 x1, .int .i64 x2]) (.agg #[.int .i64 y1, .int .i64 y2])).run Tryd.prog W = .ok false W := fun W => by
                      rw [rhandle_same]
                      congr 1
                      rw [Bool.and_eq_false_iff, decide_eq_false_iff_not, decide_eq_false_iff_not]
                      rcases Int.decEq x1 y1 with h5 | h5
                      · exact .inl h5
                      · exact .inr fun h6 => hxe (hxy.2 ⟨h5, h6⟩)
                    go_wp2_with fail
                    go_still_tail 10, (by kernel_rfl)
                    change wpList _ _ _ _ _ wr.drew
                    obtain ⟨w2, hw2⟩ : ∃ w2, wr.drew = w2 := ⟨_, rfl⟩
                    have hb2 : Hid (Below W.heap.size W w2) := Lib.hid (hw2 ▸ HK.out.1.drew)
                    rw [hw2]
                    clear hw2
                    go_wp2_with fail
                    go_ret
                    refine ⟨⟨false, rfl, (by intro e; cases e), fun e => absurd ?_ hxe⟩, H.out.2.2.2.1.trans (hb2.out.mono H.out.2.2.2.1.size)⟩
                    have h5 := HK.out.2.2.1
                    rw [e, HK.out.2.2.2] at h5
                    exact (Option.some.inj h5).symm
                · as_aux_lemma =>
                  obtain rfl : j = n2 := by omega
                  have hall : d.kids = d'.kids := by
                    apply List.ext_getElem?
                    intro k
                    rcases Nat.lt_or_ge k j with hk | hk
                    · exact heq k hk
                    · rw [List.getElem?_eq_none (by rw [HN.out.1.len2]; exact hk), List.getElem?_eq_none (by rw [HN.out.2.len2]; exact hk)]
                  have HE2 := Lib.hid (And.intro hbel hall)
                  clear hbel heq hall hbox hbox'
                  go_wp2_with fail
                  go_loopw [7] (fun i wr => ∃ j : Nat, j ≤ n3 ∧ i = .int .i64 (j : Int) ∧ Below W.heap.size W wr ∧ ∀ k, k < j → d.vals[k]? = d'.vals[k]?) (fun i _ => n3 - (intOf i).toNat)
                  case atStart => exact ⟨0, by omega, rfl, HE2.out.1, fun k hk => by omega⟩
                  case round =>
                    obtain ⟨j, hj, rfl, hbel, heq⟩ := hrel
                    have hbox := H.out.2.2.2.2.1.below hbel H.out.2.2.2.2.1.lt
                    have hbox' := H.out.2.2.2.2.2.1.below hbel H.out.2.2.2.2.2.1.lt
                    clear a1 a2 a3 b1 b2 b3
                    have a1 := hbox.cell 1
                    have a2 := hbox.cell 2
                    have a3 := hbox.cell 3
                    have b1 := hbox'.cell 1
                    have b2 := hbox'.cell 2
                    have b3 := hbox'.cell 3
                    simp only [List.getElem?_toArray, List.getElem?_cons_zero, List.getElem?_cons_succ] at a1 a2 a3 b1 b2 b3
                    have i1 : (0 : Int) ≤ (j : Int) := by omega
                    by_cases hlt : j < n3
                    · have i2 : (j : Int) < (n3 : Int) := by omega
                      obtain ⟨x, hx⟩ : ∃ x, d.vals[j]? = some x := ⟨_, List.getElem?_eq_getElem (by rw [HN.out.1.len3]; exact hlt)⟩
                      obtain ⟨y, hy⟩ : ∃ y, d'.vals[j]? = some y := ⟨_, List.getElem?_eq_getElem (by rw [HN.out.2.len3]; exact hlt)⟩
                      obtain ⟨p, off, hA, -, -, hc⟩ := (HN.out.1.vals.below hbel).at_ hlt
                      obtain ⟨q, off', hA', -, -, hc'⟩ := (HN.out.2.vals.below hbel).at_ hlt
                      have hx2 : (intL d.vals)[j]? = some (Value.int .i64 x) := by simp [intL, hx]
                      have hy2 : (intL d'.vals)[j]? = some (Value.int .i64 y) := by simp [intL, hy]
                      have z0 := hc 0 (by omega)
                      have z2 := hc' 0 (by omega)
                      simp only [Nat.mul_one, Nat.add_zero] at z0 z2
                      rw [hx2] at z0
                      rw [hy2] at z2
                      subst hA
                      subst hA'
                      have HK := Lib.hid (And.intro hbel (And.intro heq (And.intro hx hy)))
                      clear hbel heq hx hy hbox hbox' hc hc' hx2 hy2
                      by_cases hxe : x = y
                      · as_aux_lemma =>
                        have hq : (x != y) = false := by simpa using hxe
                        go_wp2_with fail
                        go_still_tail 10, (by kernel_rfl)
                        change wpList _ _ _ _ _ wr.drew
                        obtain ⟨w2, hw2⟩ : ∃ w2, wr.drew = w2 := ⟨_, rfl⟩
                        have hb2 : Hid (Below W.heap.size W w2) := Lib.hid (hw2 ▸ HK.out.1.drew)
                        rw [hw2]
                        clear hw2
                        go_wp2_with fail
                        refine ⟨⟨j + 1, by omega, by go_num, hb2.out, fun k hk => ?_⟩, by simp [intOf]; omega⟩
                        rcases Nat.lt_or_ge k j with hkj | hkj
                        · exact HK.out.2.1 k hkj
                        · obtain rfl : k = j := by omega
                          rw [HK.out.2.2.1, HK.out.2.2.2, hxe]
                      · as_aux_lemma =>
                        have hq : (x != y) = true := by simpa using hxe
                        go_wp2_with fail
                        go_still_tail 10, (by kernel_rfl)
                        change wpList _ _ _ _ _ wr.drew
                        obtain ⟨w2, hw2⟩ : ∃ w2, wr.drew = w2 := ⟨_, rfl⟩
                        have hb2 : Hid (Below W.heap.size W w2) := Lib.hid (hw2 ▸ HK.out.1.drew)
                        rw [hw2]
                        clear hw2
                        go_wp2_with fail
                        go_ret
                        refine ⟨⟨false, rfl, (by intro e; cases e), fun e => absurd ?_ hxe⟩, H.out.2.2.2.1.trans (hb2.out.mono H.out.2.2.2.1.size)⟩
                        have h5 := HK.out.2.2.1
                        rw [e, HK.out.2.2.2] at h5
                        exact (Option.some.inj h5).symm
                    · as_aux_lemma =>
                      obtain rfl : j = n3 := by omega
                      have hall : d.vals = d'.vals := by
                        apply List.ext_getElem?
                        intro k
                        rcases Nat.lt_or_ge k j with hk | hk
                        · exact heq k hk
                        · rw [List.getElem?_eq_none (by rw [HN.out.1.len3]; exact hk), List.getElem?_eq_none (by rw [HN.out.2.len3]; exact hk)]
                      have HE3 := Lib.hid (And.intro hbel hall)
                      clear hbel heq hall hbox hbox'
                      go_wp2_with fail
                      go_ret
                      refine ⟨⟨true, rfl, fun _ => ?_, fun _ => rfl⟩, H.out.2.2.2.1.trans (HE3.out.1.mono H.out.2.2.2.1.size)⟩
                      obtain ⟨l1, l2, l3, l4⟩ := d
                      obtain ⟨m1, m2, m3, m4⟩ := d'
                      have e1 := H.out.2.2.2.2.2.2.1
                      have e2 := H.out.2.2.2.2.2.2.2
                      have e3 := HE1.out.2
                      have e4 := HE2.out.2
                      have e5 := HE3.out.2
                      simp only at e1 e2 e3 e4 e5
                      rw [e1, e2, e3, e4, e5]
        · have hd : ((n3 : Int) != (m3 : Int)) = true := by simp; omega
          go_wp2_with fail
          go_ret
          exact ⟨⟨false, rfl, (by intro e; cases e), (by intro e; subst e; exact absurd (HN.out.1.len3.symm.trans HN.out.2.len3) h3)⟩, H.out.2.2.2.1⟩
      · have hd : ((n2 : Int) != (m2 : Int)) = true := by simp; omega
        go_wp2_with fail
        go_ret
        exact ⟨⟨false, rfl, (by intro e; cases e), (by intro e; subst e; exact absurd (HN.out.1.len2.symm.trans HN.out.2.len2) h2)⟩, H.out.2.2.2.1⟩
    · have hd : ((n1 : Int) != (m1 : Int)) = true := by simp; omega
      go_wp2_with fail
      go_ret
      exact ⟨⟨false, rfl, (by intro e; cases e), (by intro e; subst e; exact absurd (HN.out.1.len1.symm.trans HN.out.2.len1) h1)⟩, H.out.2.2.2.1⟩
  · have hd : (lf != lg) = true := by simpa using hl
    go_wp2_with fail
    go_ret
    exact ⟨⟨false, rfl, (by intro e; cases e), (by intro e; subst e; exact absurd (H.out.2.2.2.2.2.2.1.symm.trans H.out.2.2.2.2.2.2.2) hl)⟩, H.out.2.2.2.1⟩
end Go.Proofs.YtgpcpjjdneimfaaDoor
