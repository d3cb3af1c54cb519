/- Layer 11, the program: a handle's cell. -/
import Derived.Test.YtgpcpjjdneimfaaDoorArM
namespace Go.Proofs.YtgpcpjjdneimfaaDoor
open Go.ChangeShapes Go.WideShapes Go.ChangeAt Go.RowKit

def FindP (w : World) (p : Option Addr) (r : Int) (e : Ending) (w' : World) : Prop := e = .returned (.tuple #[.pointer p, .int .i64 r]) ∧ Below w.heap.size w w'
set_option maxRecDepth 100000 in
theorem find_nil (w : World) (x1 x2 : Int) : Calls Tryd.prog 35 #[.pointer none, .agg #[.int .i64 x1, .int .i64 x2]] w (FindP w none 1) := by
  go_enter Tryd.func35, Tryd.ntmps35
  go_wp2_with fail
  go_ret2
  exact ⟨rfl, (Below.refl _ _).alloc (Nat.le_refl _) _⟩
section
variable {w : World} {P : Nat → Prop} {g : Nat} {L : List Ar.Pl} {A : Option Nat} {c : Nat} {mv : Option Nat} {f : Nat → Nat → Nat} {V : List NdV}
theorem ArMem.at_ (h : ArMem w P g L A c mv f V) {i : Nat} {p : Ar.Pl} (hp : L[i]? = some p) : ∃ b v, A = some b ∧ V[i]? = some v ∧ ∀ j, j < 6 → w.cell? ⟨b, i * 6 + j, none⟩ = (rowOf i p v)[j]? := by
  obtain ⟨v, hv⟩ := h.view hp
  obtain ⟨b, hb, hc⟩ := h.cells.at_ hp hv
  exact ⟨b, v, hb, hv, hc⟩
theorem ArMem.waits (h : ArMem w P g L A c mv f V) {i : Nat} {p : Ar.Pl} (hp : L[i]? = some p) (hl : L.length ≤ 1000000) : Calls Tryd.prog 40 #[.pointer (some ⟨g, 1, none⟩), .int .i64 (i : Int)] w fun e w' => e = .returned (.bool (!p.used)) ∧ w = w' := by
  have hi : i < L.length := (List.getElem?_eq_some_iff.1 hp).1
  have h1 := has_any w g i mv f (h.blk.cell 1) h.words (by omega) ((h.rep.word 0 (by decide) _).1)
  have e : (f 0 (i / 64)).testBit (i % 64) = !p.used := by
    rw [Bool.eq_iff_iff, Wt.Word.has h.rep, Fr.get hp]
    cases p.used <;> simp
  rw [e] at h1
  exact h1
end
set_option maxRecDepth 100000 in
theorem find_low (w : World) (P : Nat → Prop) (g : Nat) (L : List Ar.Pl) (A : Option Nat) (c : Nat) (mv : Option Nat) (f : Nat → Nat → Nat) (V : List NdV) (h : ArMem w P g L A c mv f V) (x1 x2 : Int) (hx : x1 < 0) :
    Calls Tryd.prog 35 #[.pointer (some ⟨g, 0, none⟩), .agg #[.int .i64 x1, .int .i64 x2]] w (FindP w none 110) := by
  go_enter Tryd.func35, Tryd.ntmps35
  go_upto_region 3 with fail
  obtain ⟨W, hW⟩ : ∃ W, w.alloc (.cells #[.int .i64 x1, .int .i64 x2] 42) = W := ⟨_, rfl⟩
  obtain ⟨a, ha⟩ : ∃ a, w.heap.size = a := ⟨_, rfl⟩
  rw [ha, hW]
  have hB : Below w.heap.size w W := hW ▸ (Below.refl _ _).alloc (Nat.le_refl _) _
  have hn : Blk W a 42 #[.int .i64 x1, .int .i64 x2] := by
    rw [← hW, ← ha]
    exact Blk.new _ _ _
  have hM := h.below hB
  have d0 := hn.cell 0
  have d1 := hn.cell 1
  have b0 := hM.blk.cell 0
  have hcap := hM.cells.cap
  simp only [List.getElem?_toArray, List.getElem?_cons_zero, List.getElem?_cons_succ] at d0 d1 b0
  have HB := Lib.hid hB
  have hd : decide (x1 < 0) = true := decide_eq_true hx
  clear hB hn hW ha hM h
  go_quiet (fail)
  go_wp2_with fail
  go_ret2
  exact ⟨rfl, below_drewN HB.out _⟩
set_option maxRecDepth 100000 in
theorem find_high (w : World) (P : Nat → Prop) (g : Nat) (L : List Ar.Pl) (A : Option Nat) (c : Nat) (mv : Option Nat) (f : Nat → Nat → Nat) (V : List NdV) (h : ArMem w P g L A c mv f V) (x1 x2 : Int) (hx : 0 ≤ x1) (hy : (L.length : Int) ≤ x1) :
    Calls Tryd.prog 35 #[.pointer (some ⟨g, 0, none⟩), .agg #[.int .i64 x1, .int .i64 x2]] w (FindP w none 110) := by
  go_enter Tryd.func35, Tryd.ntmps35
  go_upto_region 3 with fail
  obtain ⟨W, hW⟩ : ∃ W, w.alloc (.cells #[.int .i64 x1, .int .i64 x2] 42) = W := ⟨_, rfl⟩
  obtain ⟨a, ha⟩ : ∃ a, w.heap.size = a := ⟨_, rfl⟩
  rw [ha, hW]
  have hB : Below w.heap.size w W := hW ▸ (Below.refl _ _).alloc (Nat.le_refl _) _
  have hn : Blk W a 42 #[.int .i64 x1, .int .i64 x2] := by
    rw [← hW, ← ha]
    exact Blk.new _ _ _
  have hM := h.below hB
  have d0 := hn.cell 0
  have d1 := hn.cell 1
  have b0 := hM.blk.cell 0
  have hcap := hM.cells.cap
  simp only [List.getElem?_toArray, List.getElem?_cons_zero, List.getElem?_cons_succ] at d0 d1 b0
  have HB := Lib.hid hB
  have hd : decide (x1 < 0) = false := decide_eq_false (by omega)
  have hd2 : decide ((L.length : Int) ≤ x1) = true := decide_eq_true hy
  clear hB hn hW ha hM h
  go_quiet (fail)
  go_wp2_with fail
  go_ret2
  exact ⟨rfl, below_drewN HB.out _⟩
set_option maxRecDepth 100000 in
theorem find_turn (w : World) (P : Nat → Prop) (g : Nat) (L : List Ar.Pl) (A : Option Nat) (c : Nat) (mv : Option Nat) (f : Nat → Nat → Nat) (V : List NdV) (h : ArMem w P g L A c mv f V) (i : Nat) (p : Ar.Pl) (x2 : Int) (hp : L[i]? = some p) (hne : (p.turn : Int) ≠ x2) :
    Calls Tryd.prog 35 #[.pointer (some ⟨g, 0, none⟩), .agg #[.int .i64 (i : Int), .int .i64 x2]] w (FindP w none 110) := by
  go_enter Tryd.func35, Tryd.ntmps35
  go_upto_region 3 with fail
  obtain ⟨W, hW⟩ : ∃ W, w.alloc (.cells #[.int .i64 (i : Int), .int .i64 x2] 42) = W := ⟨_, rfl⟩
  obtain ⟨a, ha⟩ : ∃ a, w.heap.size = a := ⟨_, rfl⟩
  rw [ha, hW]
  have hB : Below w.heap.size w W := hW ▸ (Below.refl _ _).alloc (Nat.le_refl _) _
  have hn : Blk W a 42 #[.int .i64 (i : Int), .int .i64 x2] := by
    rw [← hW, ← ha]
    exact Blk.new _ _ _
  have hM := h.below hB
  have d0 := hn.cell 0
  have d1 := hn.cell 1
  have b0 := hM.blk.cell 0
  have hcap := hM.cells.cap
  simp only [List.getElem?_toArray, List.getElem?_cons_zero, List.getElem?_cons_succ] at d0 d1 b0
  have HB := Lib.hid hB
  have hi : i < L.length := (List.getElem?_eq_some_iff.1 hp).1
  have hd : decide ((i : Int) < 0) = false := decide_eq_false (by omega)
  have hd2 : decide (L.length ≤ i) = false := decide_eq_false (by omega)
  have i1 : (0 : Int) ≤ (i : Int) := by omega
  have i2 : (i : Int) < (L.length : Int) := by omega
  obtain ⟨b, v, rfl, hv, hc⟩ := hM.at_ hp
  replace b0 : W.cell? ⟨g, 0, none⟩ = some (.slice (some ⟨b, 0, none⟩) L.length c) := b0
  have e0 := hc 0 (by omega)
  have e1 := hc 1 (by omega)
  simp only [rowOf, List.getElem?_cons_zero, List.getElem?_cons_succ, Nat.add_zero] at e0 e1
  have g1 := handle_guard
  have q1 := fun W => handle_same (i : Int) (p.turn : Int) (i : Int) x2 W
  rw [decide_eq_true rfl, decide_eq_false hne] at q1
  clear hc hv hp hne
  clear hB hn hW ha hM h
  go_quiet (fail)
  go_wp2_with fail
  go_ret2
  exact ⟨rfl, below_drewN HB.out _⟩
set_option maxRecDepth 100000 in
theorem find_waits (w : World) (P : Nat → Prop) (g : Nat) (L : List Ar.Pl) (A : Option Nat) (c : Nat) (mv : Option Nat) (f : Nat → Nat → Nat) (V : List NdV) (h : ArMem w P g L A c mv f V) (i : Nat) (p : Ar.Pl) (x2 : Int) (hp : L[i]? = some p) (hl : L.length ≤ 1000000) (he : (p.turn : Int) = x2) (hu : p.used = false) :
    Calls Tryd.prog 35 #[.pointer (some ⟨g, 0, none⟩), .agg #[.int .i64 (i : Int), .int .i64 x2]] w (FindP w none 110) := by
  go_enter Tryd.func35, Tryd.ntmps35
  go_upto_region 3 with fail
  obtain ⟨W, hW⟩ : ∃ W, w.alloc (.cells #[.int .i64 (i : Int), .int .i64 x2] 42) = W := ⟨_, rfl⟩
  obtain ⟨a, ha⟩ : ∃ a, w.heap.size = a := ⟨_, rfl⟩
  rw [ha, hW]
  have hB : Below w.heap.size w W := hW ▸ (Below.refl _ _).alloc (Nat.le_refl _) _
  have hn : Blk W a 42 #[.int .i64 (i : Int), .int .i64 x2] := by
    rw [← hW, ← ha]
    exact Blk.new _ _ _
  have hM := h.below hB
  have d0 := hn.cell 0
  have d1 := hn.cell 1
  have b0 := hM.blk.cell 0
  have hcap := hM.cells.cap
  simp only [List.getElem?_toArray, List.getElem?_cons_zero, List.getElem?_cons_succ] at d0 d1 b0
  have HB := Lib.hid hB
  have hi : i < L.length := (List.getElem?_eq_some_iff.1 hp).1
  have hd : decide ((i : Int) < 0) = false := decide_eq_false (by omega)
  have hd2 : decide (L.length ≤ i) = false := decide_eq_false (by omega)
  have i1 : (0 : Int) ≤ (i : Int) := by omega
  have i2 : (i : Int) < (L.length : Int) := by omega
  obtain ⟨b, v, rfl, hv, hc⟩ := hM.at_ hp
  replace b0 : W.cell? ⟨g, 0, none⟩ = some (.slice (some ⟨b, 0, none⟩) L.length c) := b0
  have e0 := hc 0 (by omega)
  have e1 := hc 1 (by omega)
  simp only [rowOf, List.getElem?_cons_zero, List.getElem?_cons_succ, Nat.add_zero] at e0 e1
  have g1 := handle_guard
  subst he
  have q1 := fun W => handle_same (i : Int) (p.turn : Int) (i : Int) (p.turn : Int) W
  rw [decide_eq_true rfl, decide_eq_true rfl] at q1
  have HW := Lib.hid (fun k => (hM.below (w' := W.drewN k) (below_drewN (Below.refl _ _) k)).waits hp hl)
  rw [hu] at HW
  clear hc hv hp hu
  clear hB hn hW ha hM h
  go_quiet ((go_at_call 40; with_reducible exact Calls.quiet_of_same ((HW.out _).mono fun _ _ h => ⟨h.1, h.2.symm⟩)))
  go_wp2_with fail
  go_ret2
  exact ⟨rfl, below_drewN HB.out _⟩
set_option maxRecDepth 100000 in
theorem find_yes (w : World) (P : Nat → Prop) (g : Nat) (L : List Ar.Pl) (A : Option Nat) (c : Nat) (mv : Option Nat) (f : Nat → Nat → Nat) (V : List NdV) (h : ArMem w P g L A c mv f V) (i : Nat) (p : Ar.Pl) (x2 : Int) (hp : L[i]? = some p) (hl : L.length ≤ 1000000) (he : (p.turn : Int) = x2) (hu : p.used = true) :
    Calls Tryd.prog 35 #[.pointer (some ⟨g, 0, none⟩), .agg #[.int .i64 (i : Int), .int .i64 x2]] w (fun e w' => ∃ b, A = some b ∧ FindP w (some ⟨b, i * 6, none⟩) 0 e w') := by
  go_enter Tryd.func35, Tryd.ntmps35
  go_upto_region 3 with fail
  obtain ⟨W, hW⟩ : ∃ W, w.alloc (.cells #[.int .i64 (i : Int), .int .i64 x2] 42) = W := ⟨_, rfl⟩
  obtain ⟨a, ha⟩ : ∃ a, w.heap.size = a := ⟨_, rfl⟩
  rw [ha, hW]
  have hB : Below w.heap.size w W := hW ▸ (Below.refl _ _).alloc (Nat.le_refl _) _
  have hn : Blk W a 42 #[.int .i64 (i : Int), .int .i64 x2] := by
    rw [← hW, ← ha]
    exact Blk.new _ _ _
  have hM := h.below hB
  have d0 := hn.cell 0
  have d1 := hn.cell 1
  have b0 := hM.blk.cell 0
  have hcap := hM.cells.cap
  simp only [List.getElem?_toArray, List.getElem?_cons_zero, List.getElem?_cons_succ] at d0 d1 b0
  have HB := Lib.hid hB
  have hi : i < L.length := (List.getElem?_eq_some_iff.1 hp).1
  have hd : decide ((i : Int) < 0) = false := decide_eq_false (by omega)
  have hd2 : decide (L.length ≤ i) = false := decide_eq_false (by omega)
  have i1 : (0 : Int) ≤ (i : Int) := by omega
  have i2 : (i : Int) < (L.length : Int) := by omega
  obtain ⟨b, v, rfl, hv, hc⟩ := hM.at_ hp
  replace b0 : W.cell? ⟨g, 0, none⟩ = some (.slice (some ⟨b, 0, none⟩) L.length c) := b0
  have e0 := hc 0 (by omega)
  have e1 := hc 1 (by omega)
  simp only [rowOf, List.getElem?_cons_zero, List.getElem?_cons_succ, Nat.add_zero] at e0 e1
  have g1 := handle_guard
  subst he
  have q1 := fun W => handle_same (i : Int) (p.turn : Int) (i : Int) (p.turn : Int) W
  rw [decide_eq_true rfl, decide_eq_true rfl] at q1
  have HW := Lib.hid (fun k => (hM.below (w' := W.drewN k) (below_drewN (Below.refl _ _) k)).waits hp hl)
  rw [hu] at HW
  clear hc hv hp hu
  clear hB hn hW ha hM h
  go_quiet ((go_at_call 40; with_reducible exact Calls.quiet_of_same ((HW.out _).mono fun _ _ h => ⟨h.1, h.2.symm⟩)))
  go_wp2_with fail
  go_quiet (fail)
  go_wp2_with fail
  go_ret2
  exact ⟨b, rfl, rfl, below_drewN (below_drewN HB.out _) _⟩
end Go.Proofs.YtgpcpjjdneimfaaDoor
