/- ArenaTells: the program's Same. -/
import Derived.Test.YtgpcpjjdneimfaaDoorM11D
namespace Go.Proofs.YtgpcpjjdneimfaaDoor
open Go.ChangeShapes Go.WideShapes Go.ChangeAt Go.RowKit

/-- Whether p holds, told in new memory. -/
def TellP (w : World) (p : Prop) (e : Ending) (w' : World) : Prop := (∃ b : Bool, e = .returned (.bool b) ∧ (b = true ↔ p)) ∧ Below w.heap.size w w'
theorem phandle_same (a b x y : Int) (w : World) : (Op.equalIn 10000 42 (.agg #[.int .i64 a, .int .i64 b]) (.agg #[.int .i64 x, .int .i64 y])).run Tryd.prog w = .ok (decide (a = x) && decide (b = y)) w := by
  have hS : Tryd.prog.underlying 42 = some (.struct (Tryd.prog.fieldsOf 42)) := by kernel_rfl
  have hp : Tryd.prog.stoodInHeld 42 = false := by kernel_rfl
  rw [show (10000 : Nat) = 9999 + 1 from rfl, run_equalIn_agg w 9999 42 _ _ hS hp]
  simp only [Program.fieldsOf, Tryd.underlying42]
  go_simp
  (repeat' split) <;> simp [*]
set_option maxRecDepth 100000 in
theorem eqS_any (w : World) (F F' : Nat → Prop) (A B : Option Addr) (n c m k : Nat) (l l' : List ByteArray) (h : Cells w F A n 1 (strL l)) (h' : Cells w F' B m 1 (strL l')) (hn : n ≤ 1000000) : Calls Tryd.prog 37 #[.slice A n c, .slice B m k] w (TellP w (l = l')) := by
  have H := Lib.hid (And.intro h (And.intro h' hn))
  have hln : l.length = n := by have := H.out.1.1; simp [strL] at this; omega
  have hlm : l'.length = m := by have := H.out.2.1.1; simp [strL] at this; omega
  have HL := Lib.hid (And.intro hln hlm)
  clear h h' hln hlm
  go_enter Tryd.func37, Tryd.ntmps37
  by_cases hnm : n = m
  · subst hnm
    go_wp2_with fail
    go_loopw [13, 5] (fun i _ wr => ∃ j : Nat, j ≤ n ∧ i = .int .i64 (j : Int) ∧ Below w.heap.size w wr ∧ ∀ k, k < j → l[k]? = l'[k]?) (fun i _ _ => n - (intOf i).toNat)
    case atStart => exact ⟨0, by omega, rfl, Below.refl _ _, fun k hk => by omega⟩
    case round =>
      obtain ⟨j, hj, rfl, hbel, heq⟩ := hrel
      have i1 : (0 : Int) ≤ (j : Int) := by omega
      by_cases hlt : j < n
      · have i2 : (j : Int) < (n : Int) := by omega
        obtain ⟨x, hx⟩ : ∃ x, l[j]? = some x := ⟨_, List.getElem?_eq_getElem (by have := HL.out.1; omega)⟩
        obtain ⟨y, hy⟩ : ∃ y, l'[j]? = some y := ⟨_, List.getElem?_eq_getElem (by have := HL.out.2; omega)⟩
        obtain ⟨p, off, rfl, -, -, hc⟩ := (H.out.1.below hbel).at_ hlt
        obtain ⟨q, off', rfl, -, -, hc'⟩ := (H.out.2.1.below hbel).at_ (show j < n from hlt)
        have hx2 : (strL l)[j]? = some (Value.string x) := by simp [strL, hx]
        have hy2 : (strL l')[j]? = some (Value.string y) := by simp [strL, hy]
        have z0 := hc 0 (by omega)
        have z2 := hc' 0 (by omega)
        simp only [Nat.mul_one, Nat.add_zero] at z0 z2
        rw [hx2] at z0
        rw [hy2] at z2
        have HK := Lib.hid (And.intro hbel (And.intro heq (And.intro hx hy)))
        clear hbel heq hx hy hc hc' hx2 hy2
        by_cases hxe : x = y
        · have hq : (x.toList == y.toList) = true := by rw [hxe]; simp
          have hq2 : (x.toList != y.toList) = false := by rw [hxe]; simp
          go_wp2_with fail
          go_still_tail 8, (by kernel_rfl)
          change wpList _ _ _ _ _ wr.drew
          obtain ⟨w2, hw2⟩ : ∃ w2, wr.drew = w2 := ⟨_, rfl⟩
          have hb2 : Hid (Below w.heap.size w w2) := Lib.hid (hw2 ▸ HK.out.1.drew)
          rw [hw2]
          clear hw2
          go_wp2_with fail
          refine ⟨⟨j + 1, by omega, by go_num, hb2.out, fun k hk => ?_⟩, by simp [intOf]; omega⟩
          rcases Nat.lt_or_ge k j with hkj | hkj
          · exact HK.out.2.1 k hkj
          · obtain rfl : k = j := by omega
            rw [HK.out.2.2.1, HK.out.2.2.2, hxe]
        · have hq : (x.toList == y.toList) = false := bytes_ne hxe
          have hq2 : (x.toList != y.toList) = true := by rw [bne, hq]; rfl
          go_wp2_with fail
          go_still_tail 8, (by kernel_rfl)
          change wpList _ _ _ _ _ wr.drew
          obtain ⟨w2, hw2⟩ : ∃ w2, wr.drew = w2 := ⟨_, rfl⟩
          have hb2 : Hid (Below w.heap.size w w2) := Lib.hid (hw2 ▸ HK.out.1.drew)
          rw [hw2]
          clear hw2
          go_wp2_with fail
          go_ret
          refine ⟨⟨false, rfl, (by intro e; cases e), fun e => absurd ?_ hxe⟩, hb2.out⟩
          have h5 := HK.out.2.2.1
          rw [e, HK.out.2.2.2] at h5
          exact (Option.some.inj h5).symm
      · obtain rfl : j = n := by omega
        have hall : l = l' := by
          apply List.ext_getElem?
          intro k
          rcases Nat.lt_or_ge k j with hk | hk
          · exact heq k hk
          · rw [List.getElem?_eq_none (by have := HL.out.1; omega), List.getElem?_eq_none (by have := HL.out.2; omega)]
        have HE1 := Lib.hid (And.intro hbel hall)
        clear hbel heq hall
        go_wp2_with fail
        go_ret
        exact ⟨⟨true, rfl, fun _ => HE1.out.2, fun _ => rfl⟩, HE1.out.1⟩
  · have hd : ¬ (n : Int) = (m : Int) := by omega
    have hd1 : ((n : Int) == (m : Int)) = false := by simpa using hd
    have hd2 : ((n : Int) != (m : Int)) = true := by simpa using hd
    go_wp2_with fail
    go_ret
    exact ⟨⟨false, rfl, (by intro e; cases e), fun e => absurd (by rw [← HL.out.1, ← HL.out.2, e]) hnm⟩, Below.refl _ _⟩
set_option maxRecDepth 100000 in
theorem eqH_any (w : World) (F F' : Nat → Prop) (A B : Option Addr) (n c m k : Nat) (l l' : List (Int × Int)) (h : Cells w F A n 2 (hanL l)) (h' : Cells w F' B m 2 (hanL l')) (hn : n ≤ 1000000) : Calls Tryd.prog 38 #[.slice A n c, .slice B m k] w (TellP w (l = l')) := by
  have H := Lib.hid (And.intro h (And.intro h' hn))
  have hln : l.length = n := by have := H.out.1.1; rw [hanL_len] at this; omega
  have hlm : l'.length = m := by have := H.out.2.1.1; rw [hanL_len] at this; omega
  have HL := Lib.hid (And.intro hln hlm)
  clear h h' hln hlm
  go_enter Tryd.func38, Tryd.ntmps38
  by_cases hnm : n = m
  · subst hnm
    go_wp2_with fail
    go_loopw [13, 5] (fun i _ wr => ∃ j : Nat, j ≤ n ∧ i = .int .i64 (j : Int) ∧ Below w.heap.size w wr ∧ ∀ k, k < j → l[k]? = l'[k]?) (fun i _ _ => n - (intOf i).toNat)
    case atStart => exact ⟨0, by omega, rfl, Below.refl _ _, fun k hk => by omega⟩
    case round =>
      obtain ⟨j, hj, rfl, hbel, heq⟩ := hrel
      have i1 : (0 : Int) ≤ (j : Int) := by omega
      by_cases hlt : j < n
      · have i2 : (j : Int) < (n : Int) := by omega
        obtain ⟨x, hx⟩ : ∃ x, l[j]? = some x := ⟨_, List.getElem?_eq_getElem (by have := HL.out.1; omega)⟩
        obtain ⟨y, hy⟩ : ∃ y, l'[j]? = some y := ⟨_, List.getElem?_eq_getElem (by have := HL.out.2; omega)⟩
        obtain ⟨p, off, rfl, -, -, hc⟩ := (H.out.1.below hbel).at_ hlt
        obtain ⟨q, off', rfl, -, -, hc'⟩ := (H.out.2.1.below hbel).at_ (show j < n from hlt)
        have hx2 := hanL_at _ j x hx
        have hy2 := hanL_at _ j y hy
        obtain ⟨x1, x2⟩ := x
        obtain ⟨y1, y2⟩ := y
        have z0 := (hc 0 (by omega)).trans hx2.1
        have z1 := (hc 1 (by omega)).trans hx2.2
        have z2 := (hc' 0 (by omega)).trans hy2.1
        have z3 := (hc' 1 (by omega)).trans hy2.2
        simp only [Nat.add_zero] at z0 z2
        simp only at z0 z1 z2 z3
        have hxy : ((x1, x2) = (y1, y2)) ↔ (x1 = y1 ∧ x2 = y2) := by simp
        have HK := Lib.hid (And.intro hbel (And.intro heq (And.intro hx hy)))
        clear hbel heq hx hy hc hc' hx2 hy2
        by_cases hxe : (x1, x2) = (y1, y2)
        · have g1 := handle_guard
          have q1 : ∀ W, (Op.equalIn 10000 42 (.agg #[.int .i64 x1, .int .i64 x2]) (.agg #[.int .i64 y1, .int .i64 y2])).run Tryd.prog W = .ok true W := fun W => by rw [phandle_same, decide_eq_true (hxy.1 hxe).1, decide_eq_true (hxy.1 hxe).2]; rfl
          clear hxy
          go_wp2_with fail
          go_still_tail 8, (by kernel_rfl)
          change wpList _ _ _ _ _ wr.drew
          obtain ⟨w2, hw2⟩ : ∃ w2, wr.drew = w2 := ⟨_, rfl⟩
          have hb2 : Hid (Below w.heap.size w w2) := Lib.hid (hw2 ▸ HK.out.1.drew)
          rw [hw2]
          clear hw2
          go_wp2_with fail
          refine ⟨⟨j + 1, by omega, by go_num, hb2.out, fun k hk => ?_⟩, by simp [intOf]; omega⟩
          rcases Nat.lt_or_ge k j with hkj | hkj
          · exact HK.out.2.1 k hkj
          · obtain rfl : k = j := by omega
            rw [HK.out.2.2.1, HK.out.2.2.2, hxe]
        · have g1 := handle_guard
          have q1 : ∀ W, (Op.equalIn 10000 42 (.agg #[.int .i64 x1, .int .i64 x2]) (.agg #[.int .i64 y1, .int .i64 y2])).run Tryd.prog W = .ok false W := fun W => by
            rw [phandle_same]
            have : (decide (x1 = y1) && decide (x2 = y2)) = false := by
              rw [Bool.and_eq_false_iff, decide_eq_false_iff_not, decide_eq_false_iff_not]
              by_cases h1 : x1 = y1
              · exact .inr (fun h2 => hxe (hxy.2 ⟨h1, h2⟩))
              · exact .inl h1
            rw [this]
          have HXY := Lib.hid hxy
          clear hxy
          go_wp2_with fail
          go_still_tail 8, (by kernel_rfl)
          change wpList _ _ _ _ _ wr.drew
          obtain ⟨w2, hw2⟩ : ∃ w2, wr.drew = w2 := ⟨_, rfl⟩
          have hb2 : Hid (Below w.heap.size w w2) := Lib.hid (hw2 ▸ HK.out.1.drew)
          rw [hw2]
          clear hw2
          go_wp2_with fail
          go_ret
          refine ⟨⟨false, rfl, (by intro e; cases e), fun e => absurd ?_ hxe⟩, hb2.out⟩
          have h5 := HK.out.2.2.1
          rw [e, HK.out.2.2.2] at h5
          exact (Option.some.inj h5).symm
      · obtain rfl : j = n := by omega
        have hall : l = l' := by
          apply List.ext_getElem?
          intro k
          rcases Nat.lt_or_ge k j with hk | hk
          · exact heq k hk
          · rw [List.getElem?_eq_none (by have := HL.out.1; omega), List.getElem?_eq_none (by have := HL.out.2; omega)]
        have HE1 := Lib.hid (And.intro hbel hall)
        clear hbel heq hall
        go_wp2_with fail
        go_ret
        exact ⟨⟨true, rfl, fun _ => HE1.out.2, fun _ => rfl⟩, HE1.out.1⟩
  · have hd : ¬ (n : Int) = (m : Int) := by omega
    have hd1 : ((n : Int) == (m : Int)) = false := by simpa using hd
    have hd2 : ((n : Int) != (m : Int)) = true := by simpa using hd
    go_wp2_with fail
    go_ret
    exact ⟨⟨false, rfl, (by intro e; cases e), fun e => absurd (by rw [← HL.out.1, ← HL.out.2, e]) hnm⟩, Below.refl _ _⟩
set_option maxRecDepth 100000 in
theorem eqI_any (w : World) (F F' : Nat → Prop) (A B : Option Addr) (n c m k : Nat) (l l' : List Int) (h : Cells w F A n 1 (intL l)) (h' : Cells w F' B m 1 (intL l')) (hn : n ≤ 1000000) : Calls Tryd.prog 39 #[.slice A n c, .slice B m k] w (TellP w (l = l')) := by
  have H := Lib.hid (And.intro h (And.intro h' hn))
  have hln : l.length = n := by have := H.out.1.1; simp [intL] at this; omega
  have hlm : l'.length = m := by have := H.out.2.1.1; simp [intL] at this; omega
  have HL := Lib.hid (And.intro hln hlm)
  clear h h' hln hlm
  go_enter Tryd.func39, Tryd.ntmps39
  by_cases hnm : n = m
  · subst hnm
    go_wp2_with fail
    go_loopw [13, 5] (fun i _ wr => ∃ j : Nat, j ≤ n ∧ i = .int .i64 (j : Int) ∧ Below w.heap.size w wr ∧ ∀ k, k < j → l[k]? = l'[k]?) (fun i _ _ => n - (intOf i).toNat)
    case atStart => exact ⟨0, by omega, rfl, Below.refl _ _, fun k hk => by omega⟩
    case round =>
      obtain ⟨j, hj, rfl, hbel, heq⟩ := hrel
      have i1 : (0 : Int) ≤ (j : Int) := by omega
      by_cases hlt : j < n
      · have i2 : (j : Int) < (n : Int) := by omega
        obtain ⟨x, hx⟩ : ∃ x, l[j]? = some x := ⟨_, List.getElem?_eq_getElem (by have := HL.out.1; omega)⟩
        obtain ⟨y, hy⟩ : ∃ y, l'[j]? = some y := ⟨_, List.getElem?_eq_getElem (by have := HL.out.2; omega)⟩
        obtain ⟨p, off, rfl, -, -, hc⟩ := (H.out.1.below hbel).at_ hlt
        obtain ⟨q, off', rfl, -, -, hc'⟩ := (H.out.2.1.below hbel).at_ (show j < n from hlt)
        have hx2 : (intL l)[j]? = some (Value.int .i64 x) := by simp [intL, hx]
        have hy2 : (intL l')[j]? = some (Value.int .i64 y) := by simp [intL, hy]
        have z0 := hc 0 (by omega)
        have z2 := hc' 0 (by omega)
        simp only [Nat.mul_one, Nat.add_zero] at z0 z2
        rw [hx2] at z0
        rw [hy2] at z2
        have HK := Lib.hid (And.intro hbel (And.intro heq (And.intro hx hy)))
        clear hbel heq hx hy hc hc' hx2 hy2
        by_cases hxe : x = y
        · have hq : (x == y) = true := by rw [hxe]; simp
          have hq2 : (x != y) = false := by rw [hxe]; simp
          go_wp2_with fail
          go_still_tail 8, (by kernel_rfl)
          change wpList _ _ _ _ _ wr.drew
          obtain ⟨w2, hw2⟩ : ∃ w2, wr.drew = w2 := ⟨_, rfl⟩
          have hb2 : Hid (Below w.heap.size w w2) := Lib.hid (hw2 ▸ HK.out.1.drew)
          rw [hw2]
          clear hw2
          go_wp2_with fail
          refine ⟨⟨j + 1, by omega, by go_num, hb2.out, fun k hk => ?_⟩, by simp [intOf]; omega⟩
          rcases Nat.lt_or_ge k j with hkj | hkj
          · exact HK.out.2.1 k hkj
          · obtain rfl : k = j := by omega
            rw [HK.out.2.2.1, HK.out.2.2.2, hxe]
        · have hq : (x == y) = false := by simpa using hxe
          have hq2 : (x != y) = true := by simpa using hxe
          go_wp2_with fail
          go_still_tail 8, (by kernel_rfl)
          change wpList _ _ _ _ _ wr.drew
          obtain ⟨w2, hw2⟩ : ∃ w2, wr.drew = w2 := ⟨_, rfl⟩
          have hb2 : Hid (Below w.heap.size w w2) := Lib.hid (hw2 ▸ HK.out.1.drew)
          rw [hw2]
          clear hw2
          go_wp2_with fail
          go_ret
          refine ⟨⟨false, rfl, (by intro e; cases e), fun e => absurd ?_ hxe⟩, hb2.out⟩
          have h5 := HK.out.2.2.1
          rw [e, HK.out.2.2.2] at h5
          exact (Option.some.inj h5).symm
      · obtain rfl : j = n := by omega
        have hall : l = l' := by
          apply List.ext_getElem?
          intro k
          rcases Nat.lt_or_ge k j with hk | hk
          · exact heq k hk
          · rw [List.getElem?_eq_none (by have := HL.out.1; omega), List.getElem?_eq_none (by have := HL.out.2; omega)]
        have HE1 := Lib.hid (And.intro hbel hall)
        clear hbel heq hall
        go_wp2_with fail
        go_ret
        exact ⟨⟨true, rfl, fun _ => HE1.out.2, fun _ => rfl⟩, HE1.out.1⟩
  · have hd : ¬ (n : Int) = (m : Int) := by omega
    have hd1 : ((n : Int) == (m : Int)) = false := by simpa using hd
    have hd2 : ((n : Int) != (m : Int)) = true := by simpa using hd
    go_wp2_with fail
    go_ret
    exact ⟨⟨false, rfl, (by intro e; cases e), fun e => absurd (by rw [← HL.out.1, ← HL.out.2, e]) hnm⟩, Below.refl _ _⟩
end Go.Proofs.YtgpcpjjdneimfaaDoor

namespace Go.Proofs.YtgpcpjjdneimfaaDoor
open Go.ChangeShapes Go.WideShapes Go.ChangeAt Go.RowKit

theorem nodes_made (w : World) (u0 u1 u2 u3 v0 v1 v2 v3 : Value) : ∃ W a r, (w.alloc (.cells #[u0, u1, u2, u3] 36)).alloc (.cells #[v0, v1, v2, v3] 36) = W ∧ w.heap.size = a ∧ w.heap.size + 1 = r ∧ Below w.heap.size w W ∧ Blk W a 36 #[u0, u1, u2, u3] ∧ Blk W r 36 #[v0, v1, v2, v3] := by
  refine ⟨_, _, _, rfl, rfl, rfl, ((Below.refl _ _).alloc (Nat.le_refl _) _).alloc (by simp) _, (Blk.new w _ _).below ((Below.refl _ _).alloc (Nat.le_refl _) _) (by simp), ?_⟩
  have := Blk.new (w.alloc (.cells #[u0, u1, u2, u3] 36)) 36 #[v0, v1, v2, v3]
  simpa using this
theorem nd_eq {d d' : Ar.Nd} (h0 : d.leaf = d'.leaf) (h1 : d.keys = d'.keys) (h2 : d.kids = d'.kids) (h3 : d.vals = d'.vals) : d = d' := by
  obtain ⟨a, b, c, e⟩ := d
  obtain ⟨a', b', c', e'⟩ := d'
  simp only at h0 h1 h2 h3
  subst h0 h1 h2 h3
  rfl
set_option maxRecDepth 100000 in
theorem arenaSame_any (w : World) (F F' : Nat → Prop) (v v' : NdV) (d d' : Ar.Nd) (h : NdIn w F v d) (h' : NdIn w F' v' d') : Calls Tryd.prog 20 #[v.val d.leaf, v'.val d'.leaf] w (SameP w d d') := by
  obtain ⟨A1, n1, c1, A2, n2, c2, A3, n3, c3⟩ := v
  obtain ⟨B1, m1, k1, B2, m2, k2, B3, m3, k3⟩ := v'
  obtain ⟨lf, hlf⟩ : ∃ lf, d.leaf = lf := ⟨_, rfl⟩
  obtain ⟨lg, hlg⟩ : ∃ lg, d'.leaf = lg := ⟨_, rfl⟩
  obtain ⟨W, a, r, hW, ha, hr, hB, hbox, hbox'⟩ := nodes_made w (.bool lf) (.slice A1 n1 c1) (.slice A2 n2 c2) (.slice A3 n3 c3) (.bool lg) (.slice B1 m1 k1) (.slice B2 m2 k2) (.slice B3 m3 k3)
  have H := Lib.hid (And.intro hW (And.intro ha (And.intro hr (And.intro hB (And.intro hbox hbox')))))
  have HN := Lib.hid (And.intro (h.below hB) (h'.below hB))
  have HL := Lib.hid (And.intro hlf hlg)
  have a0 := hbox.cell 0
  have a1 := hbox.cell 1
  have b0 := hbox'.cell 0
  have b1 := hbox'.cell 1
  simp only [List.getElem?_toArray, List.getElem?_cons_zero, List.getElem?_cons_succ] at a0 a1 b0 b1
  have HS := Lib.hid (eqS_any W _ _ A1 B1 n1 c1 m1 k1 d.keys d'.keys HN.out.1.keys HN.out.2.keys HN.out.1.few1)
  show Calls Tryd.prog _ #[.agg #[.bool d.leaf, .slice A1 n1 c1, .slice A2 n2 c2, .slice A3 n3 c3], .agg #[.bool d'.leaf, .slice B1 m1 k1, .slice B2 m2 k2, .slice B3 m3 k3]] w _
  rw [hlf, hlg]
  clear hW ha hr hB hbox hbox' hlf hlg h h'
  go_enter Tryd.func20, Tryd.ntmps20
  go_upto_region 1 with fail
  rw [H.out.1, H.out.2.2.1, H.out.2.1]
  by_cases hl : lf = lg
  · subst hl
    have hll : (lf == lf) = true := by simp
    go_wp2_with fail
    refine HS.out.mono ?_
    rintro e w2 ⟨⟨b, rfl, hb⟩, bb⟩
    have HB2 := Lib.hid (And.intro bb hb)
    have hx := H.out.2.2.2.2.1.below bb H.out.2.2.2.2.1.lt
    have hx' := H.out.2.2.2.2.2.below bb H.out.2.2.2.2.2.lt
    clear a0 a1 b0 b1 bb hb HS hll
    cases b with
    | false =>
      as_aux_lemma =>
      clear hx hx'
      go_wp2_with fail
      go_ret
      refine ⟨⟨false, rfl, (by intro e; cases e), fun e => ?_⟩, H.out.2.2.2.1.trans (HB2.out.1.mono H.out.2.2.2.1.size)⟩
      exact HB2.out.2.2 (by rw [e])
    | true =>
      have a2 := hx.cell 2
      have b2 := hx'.cell 2
      simp only [List.getElem?_toArray, List.getElem?_cons_zero, List.getElem?_cons_succ] at a2 b2
      have HS := Lib.hid (eqH_any w2 _ _ A2 B2 n2 c2 m2 k2 d.kids d'.kids (HN.out.1.kids.below HB2.out.1) (HN.out.2.kids.below HB2.out.1) HN.out.1.few2)
      clear hx hx'
      go_wp2_with fail
      refine HS.out.mono ?_
      rintro e w3 ⟨⟨b, rfl, hb⟩, bb⟩
      have bb := below_next HB2.out.1 bb
      have HB3 := Lib.hid (And.intro bb hb)
      have hx := H.out.2.2.2.2.1.below bb H.out.2.2.2.2.1.lt
      have hx' := H.out.2.2.2.2.2.below bb H.out.2.2.2.2.2.lt
      clear a2 b2 bb hb HS
      cases b with
      | false =>
        as_aux_lemma =>
        clear hx hx'
        go_wp2_with fail
        go_ret
        refine ⟨⟨false, rfl, (by intro e; cases e), fun e => ?_⟩, H.out.2.2.2.1.trans (HB3.out.1.mono H.out.2.2.2.1.size)⟩
        exact HB3.out.2.2 (by rw [e])
      | true =>
        have a3 := hx.cell 3
        have b3 := hx'.cell 3
        simp only [List.getElem?_toArray, List.getElem?_cons_zero, List.getElem?_cons_succ] at a3 b3
        have HS := Lib.hid (eqI_any w3 _ _ A3 B3 n3 c3 m3 k3 d.vals d'.vals (HN.out.1.vals.below HB3.out.1) (HN.out.2.vals.below HB3.out.1) HN.out.1.few3)
        clear hx hx'
        go_wp2_with fail
        refine HS.out.mono ?_
        rintro e w4 ⟨⟨b, rfl, hb⟩, bb⟩
        have HB4 := Lib.hid (And.intro (below_next HB3.out.1 bb) hb)
        clear a3 b3 bb hb HS
        go_wp2_with fail
        go_ret
        refine ⟨⟨b, rfl, fun e => ?_, fun e => HB4.out.2.2 (by rw [e])⟩, H.out.2.2.2.1.trans (HB4.out.1.mono H.out.2.2.2.1.size)⟩
        exact nd_eq (by rw [HL.out.1, HL.out.2]) (HB2.out.2.1 (by simp)) (HB3.out.2.1 (by simp)) (HB4.out.2.1 e)
  · have hll : (lf == lg) = false := by simpa using hl
    as_aux_lemma =>
    clear HS
    go_wp2_with fail
    go_ret
    exact ⟨⟨false, rfl, (by intro e; cases e), fun e => absurd (by rw [← HL.out.1, ← HL.out.2, e]) hl⟩, H.out.2.2.2.1⟩
end Go.Proofs.YtgpcpjjdneimfaaDoor
