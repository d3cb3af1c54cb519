/- ArenaPlays: the reference's Has. -/
import Derived.Test.YtgpcpjjdneimfaaDoorM11B
namespace Go.Proofs.YtgpcpjjdneimfaaDoor
open Go.ChangeShapes Go.WideShapes Go.ChangeAt Go.RowKit

def RHasP (w : World) (L : List Ar.Pl) (h : Int × Int) (e : Ending) (w' : World) : Prop := e = .returned (.bool (Ar.has L h)) ∧ Below w.heap.size w w'
theorem has_made (w : World) (A : Option Addr) (n c : Nat) (x1 x2 : Int) : ∃ W a r, (w.alloc (.cells #[.slice A n c] 29)).alloc (.cells #[.int .i64 x1, .int .i64 x2] 51) = W ∧ w.heap.size = a ∧ w.heap.size + 1 = r ∧ Below w.heap.size w W ∧ Blk W a 29 #[.slice A n c] ∧ Blk W r 51 #[.int .i64 x1, .int .i64 x2] := by
  have H1 := (Held.start w).new #[.slice A n c] 29
  have H2 := H1.new #[.int .i64 x1, .int .i64 x2] 51
  simp only [show ∀ (X : World) (o : Obj), (X.alloc o).heap.size = X.heap.size + 1 from fun X o => by simp] at H2
  exact ⟨_, _, _, rfl, rfl, rfl, H2.1, H2.at_ (by simp), H2.at_ (by simp)⟩
set_option maxRecDepth 100000 in
theorem refHas_low (w : World) (F : Nat → Prop) (A : Option Addr) (n c : Nat) (L : List Ar.Pl) (h : PlIn w F A n L) (x1 x2 : Int) (hx : x1 < 0) : Calls Tryd.prog 19 #[.agg #[.slice A n c], .agg #[.int .i64 x1, .int .i64 x2]] w (RHasP w L (x1, x2)) := by
  obtain ⟨W, a, r, hW, ha, hr, hB, hbox, hhan⟩ := has_made w A n c x1 x2
  have hln := h.len
  have hM := h.below hB
  have a0 := hbox.cell 0
  have d0 := hhan.cell 0
  have d1 := hhan.cell 1
  simp only [List.getElem?_toArray, List.getElem?_cons_zero, List.getElem?_cons_succ] at a0 d0 d1
  have hd : decide (0 ≤ x1) = false := decide_eq_false (by omega)
  have hres : Ar.has L (x1, x2) = false := by
    unfold Ar.has
    rw [Bool.and_eq_false_iff]
    exact .inl (decide_eq_false (by show ¬ 0 ≤ x1; omega))
  clear hx
  have HR : Hid (Ar.has L (x1, x2) = false) := Lib.hid hres
  have H := Lib.hid (And.intro hW (And.intro ha (And.intro hr hB)))
  clear hW ha hr hB hbox hhan hM hln hres h
  go_enter Tryd.func19, Tryd.ntmps19
  go_upto_region 1 with fail
  rw [H.out.1, H.out.2.2.1, H.out.2.1]
  go_quiet (fail)
  go_wp2_with fail
  go_ret
  exact ⟨by rw [HR.out]; rfl, below_drewN H.out.2.2.2 _⟩
set_option maxRecDepth 100000 in
theorem refHas_high (w : World) (F : Nat → Prop) (A : Option Addr) (n c : Nat) (L : List Ar.Pl) (h : PlIn w F A n L) (x1 x2 : Int) (hx : 0 ≤ x1) (hy : (n : Int) ≤ x1) : Calls Tryd.prog 19 #[.agg #[.slice A n c], .agg #[.int .i64 x1, .int .i64 x2]] w (RHasP w L (x1, x2)) := by
  obtain ⟨W, a, r, hW, ha, hr, hB, hbox, hhan⟩ := has_made w A n c x1 x2
  have hln := h.len
  have hM := h.below hB
  have a0 := hbox.cell 0
  have d0 := hhan.cell 0
  have d1 := hhan.cell 1
  simp only [List.getElem?_toArray, List.getElem?_cons_zero, List.getElem?_cons_succ] at a0 d0 d1
  have hd : decide (0 ≤ x1) = true := decide_eq_true hx
  have hd2 : decide (x1 < (n : Int)) = false := decide_eq_false (by omega)
  have hres : Ar.has L (x1, x2) = false := by
    cases hh : Ar.has L (x1, x2) with
    | false => rfl
    | true =>
      have h1 := Ar.has_lt _ _ hh
      have h2 : (x1.toNat : Int) = x1 := Int.toNat_of_nonneg hx
      have h3 : x1.toNat < L.length := h1
      omega
  clear hx hy
  have HR : Hid (Ar.has L (x1, x2) = false) := Lib.hid hres
  have H := Lib.hid (And.intro hW (And.intro ha (And.intro hr hB)))
  clear hW ha hr hB hbox hhan hM hln hres h
  go_enter Tryd.func19, Tryd.ntmps19
  go_upto_region 1 with fail
  rw [H.out.1, H.out.2.2.1, H.out.2.1]
  go_quiet (fail)
  go_wp2_with fail
  go_ret
  exact ⟨by rw [HR.out]; rfl, below_drewN H.out.2.2.2 _⟩
set_option maxRecDepth 100000 in
theorem refHas_free (w : World) (F : Nat → Prop) (A : Option Addr) (n c : Nat) (L : List Ar.Pl) (h : PlIn w F A n L) (i : Nat) (p : Ar.Pl) (x2 : Int) (hp : L[i]? = some p) (hu : p.used = false) : Calls Tryd.prog 19 #[.agg #[.slice A n c], .agg #[.int .i64 (i : Int), .int .i64 x2]] w (RHasP w L ((i : Int), x2)) := by
  obtain ⟨W, a, r, hW, ha, hr, hB, hbox, hhan⟩ := has_made w A n c (i : Int) x2
  have hln := h.len
  have hM := h.below hB
  have a0 := hbox.cell 0
  have d0 := hhan.cell 0
  have d1 := hhan.cell 1
  simp only [List.getElem?_toArray, List.getElem?_cons_zero, List.getElem?_cons_succ] at a0 d0 d1
  have hi : i < n := by rw [← hln]; exact (List.getElem?_eq_some_iff.1 hp).1
  have hd : decide (0 ≤ (i : Int)) = true := decide_eq_true (by omega)
  have hd2 : decide ((i : Int) < (n : Int)) = true := decide_eq_true (by omega)
  have i1 : (0 : Int) ≤ (i : Int) := by omega
  have i2 : (i : Int) < (n : Int) := by omega
  have hev : Ar.has L ((i : Int), x2) = (p.used && decide ((p.turn : Int) = x2)) := by
    unfold Ar.has
    simp only [Int.toNat_natCast, hp]
    rw [decide_eq_true i1, Bool.true_and]
  obtain ⟨b, off, v, rfl, -, hc⟩ := hM.at_ hp
  have e0 := hc 0 (by omega)
  have e1 := hc 1 (by omega)
  simp only [rowP, List.getElem?_cons_zero, List.getElem?_cons_succ, Nat.add_zero] at e0 e1
  rw [hu] at e0
  have hres : Ar.has L ((i : Int), x2) = false := by rw [hev, hu]; rfl
  clear hc hp hev hu
  have HR : Hid (Ar.has L ((i : Int), x2) = false) := Lib.hid hres
  have H := Lib.hid (And.intro hW (And.intro ha (And.intro hr hB)))
  clear hW ha hr hB hbox hhan hM hln hres h
  go_enter Tryd.func19, Tryd.ntmps19
  go_upto_region 1 with fail
  rw [H.out.1, H.out.2.2.1, H.out.2.1]
  go_quiet (fail)
  go_wp2_with fail
  go_ret
  exact ⟨by rw [HR.out]; rfl, below_drewN H.out.2.2.2 _⟩
set_option maxRecDepth 100000 in
theorem refHas_turn (w : World) (F : Nat → Prop) (A : Option Addr) (n c : Nat) (L : List Ar.Pl) (h : PlIn w F A n L) (i : Nat) (p : Ar.Pl) (x2 : Int) (hp : L[i]? = some p) (hu : p.used = true) (ht : (p.turn : Int) ≠ x2) : Calls Tryd.prog 19 #[.agg #[.slice A n c], .agg #[.int .i64 (i : Int), .int .i64 x2]] w (RHasP w L ((i : Int), x2)) := by
  obtain ⟨W, a, r, hW, ha, hr, hB, hbox, hhan⟩ := has_made w A n c (i : Int) x2
  have hln := h.len
  have hM := h.below hB
  have a0 := hbox.cell 0
  have d0 := hhan.cell 0
  have d1 := hhan.cell 1
  simp only [List.getElem?_toArray, List.getElem?_cons_zero, List.getElem?_cons_succ] at a0 d0 d1
  have hi : i < n := by rw [← hln]; exact (List.getElem?_eq_some_iff.1 hp).1
  have hd : decide (0 ≤ (i : Int)) = true := decide_eq_true (by omega)
  have hd2 : decide ((i : Int) < (n : Int)) = true := decide_eq_true (by omega)
  have i1 : (0 : Int) ≤ (i : Int) := by omega
  have i2 : (i : Int) < (n : Int) := by omega
  have hev : Ar.has L ((i : Int), x2) = (p.used && decide ((p.turn : Int) = x2)) := by
    unfold Ar.has
    simp only [Int.toNat_natCast, hp]
    rw [decide_eq_true i1, Bool.true_and]
  obtain ⟨b, off, v, rfl, -, hc⟩ := hM.at_ hp
  have e0 := hc 0 (by omega)
  have e1 := hc 1 (by omega)
  simp only [rowP, List.getElem?_cons_zero, List.getElem?_cons_succ, Nat.add_zero] at e0 e1
  rw [hu] at e0
  have hq : ((p.turn : Int) == x2) = false := by simpa using ht
  have hres : Ar.has L ((i : Int), x2) = false := by rw [hev, hu, decide_eq_false ht]; rfl
  clear hc hp hev hu ht
  have HR : Hid (Ar.has L ((i : Int), x2) = false) := Lib.hid hres
  have H := Lib.hid (And.intro hW (And.intro ha (And.intro hr hB)))
  clear hW ha hr hB hbox hhan hM hln hres h
  go_enter Tryd.func19, Tryd.ntmps19
  go_upto_region 1 with fail
  rw [H.out.1, H.out.2.2.1, H.out.2.1]
  go_quiet (fail)
  go_wp2_with fail
  go_ret
  exact ⟨by rw [HR.out]; rfl, below_drewN H.out.2.2.2 _⟩
set_option maxRecDepth 100000 in
theorem refHas_yes (w : World) (F : Nat → Prop) (A : Option Addr) (n c : Nat) (L : List Ar.Pl) (h : PlIn w F A n L) (i : Nat) (p : Ar.Pl) (x2 : Int) (hp : L[i]? = some p) (hu : p.used = true) (ht : (p.turn : Int) = x2) : Calls Tryd.prog 19 #[.agg #[.slice A n c], .agg #[.int .i64 (i : Int), .int .i64 x2]] w (RHasP w L ((i : Int), x2)) := by
  obtain ⟨W, a, r, hW, ha, hr, hB, hbox, hhan⟩ := has_made w A n c (i : Int) x2
  have hln := h.len
  have hM := h.below hB
  have a0 := hbox.cell 0
  have d0 := hhan.cell 0
  have d1 := hhan.cell 1
  simp only [List.getElem?_toArray, List.getElem?_cons_zero, List.getElem?_cons_succ] at a0 d0 d1
  have hi : i < n := by rw [← hln]; exact (List.getElem?_eq_some_iff.1 hp).1
  have hd : decide (0 ≤ (i : Int)) = true := decide_eq_true (by omega)
  have hd2 : decide ((i : Int) < (n : Int)) = true := decide_eq_true (by omega)
  have i1 : (0 : Int) ≤ (i : Int) := by omega
  have i2 : (i : Int) < (n : Int) := by omega
  have hev : Ar.has L ((i : Int), x2) = (p.used && decide ((p.turn : Int) = x2)) := by
    unfold Ar.has
    simp only [Int.toNat_natCast, hp]
    rw [decide_eq_true i1, Bool.true_and]
  obtain ⟨b, off, v, rfl, -, hc⟩ := hM.at_ hp
  have e0 := hc 0 (by omega)
  have e1 := hc 1 (by omega)
  simp only [rowP, List.getElem?_cons_zero, List.getElem?_cons_succ, Nat.add_zero] at e0 e1
  rw [hu] at e0
  have hq : ((p.turn : Int) == x2) = true := by simpa using ht
  have hres : Ar.has L ((i : Int), x2) = true := by rw [hev, hu, decide_eq_true ht]; rfl
  clear hc hp hev hu ht
  have HR : Hid (Ar.has L ((i : Int), x2) = true) := Lib.hid hres
  have H := Lib.hid (And.intro hW (And.intro ha (And.intro hr hB)))
  clear hW ha hr hB hbox hhan hM hln hres h
  go_enter Tryd.func19, Tryd.ntmps19
  go_upto_region 1 with fail
  rw [H.out.1, H.out.2.2.1, H.out.2.1]
  go_quiet (fail)
  go_wp2_with fail
  go_ret
  exact ⟨by rw [HR.out]; rfl, below_drewN H.out.2.2.2 _⟩
theorem refHas_any (w : World) (F : Nat → Prop) (A : Option Addr) (n c : Nat) (L : List Ar.Pl) (h : PlIn w F A n L) (x1 x2 : Int) : Calls Tryd.prog 19 #[.agg #[.slice A n c], .agg #[.int .i64 x1, .int .i64 x2]] w (RHasP w L (x1, x2)) := by
  have hln := h.len
  rcases Int.lt_or_le x1 0 with h0 | h0
  · exact refHas_low w F A n c L h x1 x2 h0
  · obtain ⟨i, rfl⟩ := Int.eq_ofNat_of_zero_le h0
    rcases Nat.lt_or_ge i n with h1 | h1
    · obtain ⟨p, hp⟩ : ∃ p, L[i]? = some p := ⟨_, List.getElem?_eq_getElem (by omega)⟩
      cases hu : p.used with
      | false => exact refHas_free w F A n c L h i p x2 hp hu
      | true =>
        by_cases ht : (p.turn : Int) = x2
        · exact refHas_yes w F A n c L h i p x2 hp hu ht
        · exact refHas_turn w F A n c L h i p x2 hp hu ht
    · exact refHas_high w F A n c L h _ x2 h0 (by omega)
end Go.Proofs.YtgpcpjjdneimfaaDoor
