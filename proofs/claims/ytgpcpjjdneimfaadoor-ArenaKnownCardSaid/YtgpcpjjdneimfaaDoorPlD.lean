/- ArenaPlays: a node written over. -/
import Derived.Test.YtgpcpjjdneimfaaDoorM11A
namespace Go.Proofs.YtgpcpjjdneimfaaDoor
open Go.ChangeShapes Go.WideShapes Go.ChangeAt Go.RowKit

/-- m cells at A are there, and may be written; their block is one of those that may be turned. -/
def Sp (w : World) (base : Nat → Prop) (A : Option Addr) (m : Nat) : Prop := 0 < m → ∃ b off t cs, A = some ⟨b, off, none⟩ ∧ base b ∧ Blk w b t cs ∧ off + m ≤ cs.size
theorem Sp.of {w : World} {F : Nat → Prop} {base n s : Nat} {A : Option Addr} {xs : List Value} (h : Cells w F A n s xs) (hw : WrA w base A) : Sp w F A (n * s) := fun hm => by
  obtain ⟨b, off, rfl, hF, _, hc⟩ := h.2 (Nat.pos_of_ne_zero fun e => by subst e; simp at hm)
  obtain ⟨_, t, cs, hblk⟩ := hw b off none rfl
  refine ⟨b, off, t, cs, rfl, hF, hblk, ?_⟩
  have hl : n * s - 1 < xs.length := by rw [h.1]; omega
  have h1 := hc (n * s - 1) _ (List.getElem?_eq_getElem hl)
  rw [hblk.cell] at h1
  have := (Array.getElem?_eq_some_iff.1 h1).1
  omega
theorem Sp.set {w : World} {base : Nat → Prop} {A : Option Addr} {m : Nat} (h : Sp w base A m) (b' o : Nat) (u : Value) : Sp (w.setCell ⟨b', o, none⟩ u) base A m := fun hm => by
  obtain ⟨b, off, t, cs, e, hb, hblk, hs⟩ := h hm
  by_cases hbb : b' = b
  · subst hbb
    exact ⟨b', off, t, _, e, hb, hblk.set_ o u, by simpa using hs⟩
  · exact ⟨b, off, t, cs, e, hb, hblk.far hbb u, hs⟩
theorem Sp.below {w w' : World} {base : Nat → Prop} {A : Option Addr} {m : Nat} (h : Sp w base A m) (hb : Below w.heap.size w w') : Sp w' base A m := fun hm => by
  obtain ⟨b, off, t, cs, e, hbb, hblk, hs⟩ := h hm
  exact ⟨b, off, t, cs, e, hbb, hblk.below hb hblk.lt, hs⟩
theorem Sp.at_ {w : World} {base : Nat → Prop} {A : Option Addr} {m : Nat} (h : Sp w base A m) {j : Nat} (hj : j < m) : ∃ b off u, A = some ⟨b, off, none⟩ ∧ base b ∧ w.cell? ⟨b, off + j, none⟩ = some u ∧ w.frozen? ⟨b, off + j, none⟩ = false := by
  obtain ⟨b, off, t, cs, e, hbb, hblk, hs⟩ := h (by omega)
  exact ⟨b, off, _, e, hbb, (hblk.cell _).trans (Array.getElem?_eq_getElem (by omega)), hblk.frozen _⟩
/-- What spoil keeps. -/
structure SpW (w wr : World) (base : Nat → Prop) (a : Nat) (cells : Array Value) (v : NdV) : Prop where
  turn : Turns base w wr
  box : Blk wr a 36 cells
  s1 : Sp wr base v.A1 (v.n1 * 1)
  s2 : Sp wr base v.A2 (v.n2 * 2)
  s3 : Sp wr base v.A3 (v.n3 * 1)
theorem SpW.set {w wr : World} {base : Nat → Prop} {a : Nat} {cells : Array Value} {v : NdV} (h : SpW w wr base a cells v) {b : Nat} (hb : base b) (ha : b ≠ a) (o : Nat) (u : Value) : SpW w (wr.setCell ⟨b, o, none⟩ u) base a cells v :=
  ⟨h.turn.setCell o u (fun _ => hb), h.box.far ha u, h.s1.set _ _ _, h.s2.set _ _ _, h.s3.set _ _ _⟩
set_option maxRecDepth 100000 in
theorem spoil_any (w : World) (F : Nat → Prop) (base : Nat) (v : NdV) (d : Ar.Nd) (lf : Bool) (h : NdIn w F v d) (hw : Wr w base v) : Calls Tryd.prog 29 #[v.val lf] w fun e w' => e = .returned (.tuple #[]) ∧ Turns F w w' := by
  obtain ⟨A1, n1, c1, A2, n2, c2, A3, n3, c3⟩ := v
  obtain ⟨a, ha⟩ : ∃ a, w.heap.size = a := ⟨_, rfl⟩
  obtain ⟨W, hW⟩ : ∃ W, w.alloc (.cells #[.bool lf, .slice A1 n1 c1, .slice A2 n2 c2, .slice A3 n3 c3] 36) = W := ⟨_, rfl⟩
  have hB : Below w.heap.size w W := hW ▸ (Below.refl _ _).alloc (Nat.le_refl _) _
  have hbox : Blk W a 36 #[.bool lf, .slice A1 n1 c1, .slice A2 n2 c2, .slice A3 n3 c3] := by
    rw [← hW, ← ha]
    exact Blk.new _ _ _
  have hS : SpW w W F a #[.bool lf, .slice A1 n1 c1, .slice A2 n2 c2, .slice A3 n3 c3] ⟨A1, n1, c1, A2, n2, c2, A3, n3, c3⟩ :=
    ⟨Turns.of_below hB, hbox, (Sp.of h.keys hw.a1).below hB, (Sp.of h.kids hw.a2).below hB, (Sp.of h.vals hw.a3).below hB⟩
  have f1 : n1 ≤ 1000000 := h.few1
  have f2 : n2 ≤ 1000000 := h.few2
  have f3 : n3 ≤ 1000000 := h.few3
  have hlt : ∀ A b off s, (A = A1 ∨ A = A2 ∨ A = A3) → A = some ⟨b, off, s⟩ → b < a := by
    rintro A b off s (rfl | rfl | rfl) e
    · obtain ⟨_, t, cs, hb⟩ := hw.a1 b off s e
      exact ha ▸ hb.lt
    · obtain ⟨_, t, cs, hb⟩ := hw.a2 b off s e
      exact ha ▸ hb.lt
    · obtain ⟨_, t, cs, hb⟩ := hw.a3 b off s e
      exact ha ▸ hb.lt
  have H := Lib.hid (And.intro hW (And.intro ha (And.intro hS hlt)))
  show Calls Tryd.prog _ #[.agg #[.bool lf, .slice A1 n1 c1, .slice A2 n2 c2, .slice A3 n3 c3]] w _
  clear h hw hW ha hB hbox hS hlt
  go_enter Tryd.func29, Tryd.ntmps29
  go_upto_region 1 with fail
  rw [H.out.1, H.out.2.1]
  have HW0 := Lib.hid H.out.2.2.1
  go_wp2_with fail
  go_loopw [2] (fun i wr => ∃ j : Nat, j ≤ n1 ∧ i = .int .i64 (j : Int) ∧ SpW w wr F a #[.bool lf, .slice A1 n1 c1, .slice A2 n2 c2, .slice A3 n3 c3] ⟨A1, n1, c1, A2, n2, c2, A3, n3, c3⟩) (fun i _ => n1 - (intOf i).toNat)
  case atStart => exact ⟨0, by omega, rfl, HW0.out⟩
  case round =>
    obtain ⟨j, hj, rfl, hS⟩ := hrel
    have b1 := hS.box.cell 1
    simp only [List.getElem?_toArray, List.getElem?_cons_zero, List.getElem?_cons_succ] at b1
    by_cases hlt : j < n1
    · have i1 : (0 : Int) ≤ (j : Int) := by omega
      have i2 : (j : Int) < (n1 : Int) := by omega
      obtain ⟨b, off, u, hA, hbb, z0, g0⟩ := hS.s1.at_ (j := j) (by show j < n1 * 1; omega)
      have hba := H.out.2.2.2 A1 b off none (.inl rfl) hA
      change A1 = some ⟨b, off, none⟩ at hA
      subst hA
      have HK := Lib.hid (And.intro hS (And.intro hbb hba))
      clear hS hbb hba
      go_wp2_with fail
      exact ⟨⟨j + 1, by omega, by go_num, HK.out.1.set HK.out.2.1 (by have := HK.out.2.2; omega) _ _⟩, by simp [intOf]; omega⟩
    · have i2 : ¬ (j : Int) < (n1 : Int) := by omega
      have HW1 := Lib.hid hS
      clear hS hj hlt
      go_wp2_with fail
      go_loopw [3] (fun i wr => ∃ j : Nat, j ≤ n2 ∧ i = .int .i64 (j : Int) ∧ SpW w wr F a #[.bool lf, .slice A1 n1 c1, .slice A2 n2 c2, .slice A3 n3 c3] ⟨A1, n1, c1, A2, n2, c2, A3, n3, c3⟩) (fun i _ => n2 - (intOf i).toNat)
      case atStart => exact ⟨0, by omega, rfl, HW1.out⟩
      case round =>
        obtain ⟨j, hj, rfl, hS⟩ := hrel
        have b2 := hS.box.cell 2
        simp only [List.getElem?_toArray, List.getElem?_cons_zero, List.getElem?_cons_succ] at b2
        by_cases hlt : j < n2
        · have i1 : (0 : Int) ≤ (j : Int) := by omega
          have i2 : (j : Int) < (n2 : Int) := by omega
          obtain ⟨b, off, u, hA, hbb, z0, g0⟩ := hS.s2.at_ (j := j * 2) (by show j * 2 < n2 * 2; omega)
          obtain ⟨b2, off2, u2, hA2, -, z1, g1⟩ := hS.s2.at_ (j := j * 2 + 1) (by show j * 2 + 1 < n2 * 2; omega)
          obtain ⟨rfl, rfl⟩ : b = b2 ∧ off = off2 := by
            have := hA.symm.trans hA2
            injection this with this
            injection this with e1 e2
            exact ⟨e1, e2⟩
          rw [show off + (j * 2 + 1) = off + j * 2 + 1 by omega] at z1 g1
          have hba := H.out.2.2.2 A2 b off none (.inr (.inl rfl)) hA
          change A2 = some ⟨b, off, none⟩ at hA
          clear hA2
          subst hA
          have HK := Lib.hid (And.intro hS (And.intro hbb hba))
          clear hS hbb hba
          go_wp2_with fail
          exact ⟨⟨j + 1, by omega, by go_num, (HK.out.1.set HK.out.2.1 (by have := HK.out.2.2; omega) _ _).set HK.out.2.1 (by have := HK.out.2.2; omega) _ _⟩, by simp [intOf]; omega⟩
        · have i2 : ¬ (j : Int) < (n2 : Int) := by omega
          have HW2 := Lib.hid hS
          clear hS hj hlt
          go_wp2_with fail
          go_loopw [4] (fun i wr => ∃ j : Nat, j ≤ n3 ∧ i = .int .i64 (j : Int) ∧ SpW w wr F a #[.bool lf, .slice A1 n1 c1, .slice A2 n2 c2, .slice A3 n3 c3] ⟨A1, n1, c1, A2, n2, c2, A3, n3, c3⟩) (fun i _ => n3 - (intOf i).toNat)
          case atStart => exact ⟨0, by omega, rfl, HW2.out⟩
          case round =>
            obtain ⟨j, hj, rfl, hS⟩ := hrel
            have b3 := hS.box.cell 3
            simp only [List.getElem?_toArray, List.getElem?_cons_zero, List.getElem?_cons_succ] at b3
            by_cases hlt : j < n3
            · have i1 : (0 : Int) ≤ (j : Int) := by omega
              have i2 : (j : Int) < (n3 : Int) := by omega
              obtain ⟨b, off, u, hA, hbb, z0, g0⟩ := hS.s3.at_ (j := j) (by show j < n3 * 1; omega)
              have hba := H.out.2.2.2 A3 b off none (.inr (.inr rfl)) hA
              change A3 = some ⟨b, off, none⟩ at hA
              subst hA
              have HK := Lib.hid (And.intro hS (And.intro hbb hba))
              clear hS hbb hba
              go_wp2_with fail
              exact ⟨⟨j + 1, by omega, by go_num, HK.out.1.set HK.out.2.1 (by have := HK.out.2.2; omega) _ _⟩, by simp [intOf]; omega⟩
            · have i2 : ¬ (j : Int) < (n3 : Int) := by omega
              have HW3 := Lib.hid hS
              clear hS hj hlt
              go_wp2_with fail
              refine bodyPost_end (results_none rfl _ _ _) rfl ⟨rfl, ?_⟩
              exact HW3.out.turn
end Go.Proofs.YtgpcpjjdneimfaaDoor
