/- Layer 4's reference: panes read. -/
import Derived.Test.YtponelbfddfliaaRefQ
namespace Go.Proofs.Ytponelbfddfliaa
open Go.ChangeShapes Go.WideShapes Go.ChangeAt Go.RowKit

theorem tos_three {l : List PT} {a b c : Nat} (h : Ky.kinds (tos l) = [a, b, c]) : ∃ x y z : PT, l = [x, y, z] := by
  have hl := congrArg List.length h
  simp [Ky.kinds, tos] at hl
  match l, hl with
  | [x, y, z], _ => exact ⟨x, y, z, rfl⟩
theorem bytes_lit3 (w : World) (t : TypeId) (a b c : Nat) (ha : a < 256) (hb : b < 256) (hc : c < 256) : Bytes (w.alloc (.cells #[.int .u8 (a : Int), .int .u8 (b : Int), .int .u8 (c : Int)] t)) (w.heap.size + 1) (some ⟨w.heap.size, 0, none⟩) 3 [a, b, c] :=
  ⟨rfl, by intro x hx; simp at hx; omega, fun _ => ⟨w.heap.size, 0, rfl, by omega, fun i hi => by
    rw [(Blk.new w t _).cell]
    match i, hi with
    | 0, _ => rfl
    | 1, _ => rfl
    | 2, _ => rfl⟩⟩
/-- A pane that a text tells in the order of the primary rows. -/
def OfP (w : World) (o : Option (List Ky.Part)) (e : Ending) (w' : World) : Prop := match o with
  | none => e = .returned (.tuple #[paneV ⟨#[]⟩ 0 0, .bool false]) ∧ Below w.heap.size w w'
  | some l => ∃ x y z : PT, l = tos [x, y, z] ∧ e = .returned (.tuple #[paneV x.s z.n y.n, .bool true]) ∧ Below w.heap.size w w'
set_option maxRecDepth 100000 in
set_option maxHeartbeats 2000000 in
theorem refOfPrimary_any (s : ByteArray) (w : World) (hs : s.size ≤ 1000000) : Calls Try.prog 53 #[.string s] w (OfP w (Ky.parse (nums s) [2, 1, 1])) := by
  obtain ⟨w0, hw0⟩ : ∃ w0, w.alloc (.cells #[.string ⟨#[]⟩, .int .i64 0, .int .i64 0] 34) = w0 := ⟨_, rfl⟩
  have hbk := Blk.new w 34 #[.string ⟨#[]⟩, .int .i64 0, .int .i64 0]
  have hbe : Below w.heap.size w (w.alloc (.cells #[.string ⟨#[]⟩, .int .i64 0, .int .i64 0] 34)) := (Below.refl _ _).alloc (Nat.le_refl _) _
  have hz : (w.alloc (.cells #[.string ⟨#[]⟩, .int .i64 0, .int .i64 0] 34)).heap.size = w.heap.size + 1 := by simp
  rw [hw0] at hbk hbe hz
  have HBE := Lib.hid (And.intro hbe (And.intro hbk hz))
  clear hbk hbe hz
  go_enter Try.func53, Try.ntmps53
  go_wp2_with fail
  clear hw0
  have hby := (bytes_lit3 w0 5 2 1 1 (by omega) (by omega) (by omega))
  refine (refParse_any s 3 3 _ _ [2, 1, 1] _ hby (by simp) hs (by omega)).mono ?_
  intro e w1 h
  rcases hp : Ky.parse (nums s) [2, 1, 1] with _ | l
  · rw [hp] at h
    obtain ⟨rfl, b1⟩ := h
    have D1 : Below w0.heap.size w0 w1 := ((Below.refl _ _).alloc (Nat.le_refl _) _).trans (b1.mono (by simp))
    have hb1 := HBE.out.2.1.below D1 (by rw [HBE.out.2.2]; omega)
    have hc0 := hb1.cell 0
    have hc1 := hb1.cell 1
    have hc2 := hb1.cell 2
    have hf0 := hb1.frozen 0
    have hf1 := hb1.frozen 1
    have hf2 := hb1.frozen 2
    have hb2 := ((hb1.set_ 0 (.string ⟨#[]⟩)).set_ 1 (.int .i64 0)).set_ 2 (.int .i64 0)
    have hd0 := Lib.hid (hb2.cell 0)
    have hd1 := Lib.hid (hb2.cell 1)
    have hd2 := Lib.hid (hb2.cell 2)
    have HD := Lib.hid (HBE.out.1.trans (D1.mono HBE.out.1.size))
    have HP := Lib.hid hp
    clear hp hby b1 hb1 hb2
    go_wp2_with fail
    have e0 := hd0.out
    have e1 := hd1.out
    have e2 := hd2.out
    refine bodyPost_ret (v := .tuple #[paneV ⟨#[]⟩ 0 0, .bool false]) ?_ rfl ?_
    · simp [results, Try.results53, go_sem, paneV, e0, e1, e2]
    · rw [HP.out]
      exact ⟨rfl, ((HD.out.setCell (Nat.le_refl _) _).setCell (Nat.le_refl _) _).setCell (Nat.le_refl _) _⟩
  · rw [hp] at h
    obtain ⟨lp, A, c, rfl, rfl, hpt, how, b1⟩ := h
    have hkn := ((Ky.parse_iff (nums s) [2, 1, 1] (nums_byte s) (tos lp)).1 hp).1
    obtain ⟨x, y, z, rfl⟩ := tos_three hkn
    obtain ⟨g, cap, hv, hg1, hg2⟩ := how.form (by simp)
    injection hv with hv1 hv2 hv3
    subst hv1 hv3
    have D1 : Below w0.heap.size w0 w1 := ((Below.refl _ _).alloc (Nat.le_refl _) _).trans (b1.mono (by simp))
    have hb1 := HBE.out.2.1.below D1 (by rw [HBE.out.2.2]; omega)
    have hgn : g ≠ w.heap.size := by have h1 := HBE.out.2.2; simp at hg1; omega
    obtain ⟨b', off', he, hbb, hcl⟩ := hpt.2.2 (by simp)
    injection he with he
    injection he with he1 he2
    subst he1 he2
    have x2 : w1.cell? ⟨g, 2, none⟩ = some (.string x.s) := by simpa using (hcl 0 (by simp)).2.2
    have y1 : w1.cell? ⟨g, 4, none⟩ = some (.int .i64 y.n) := by simpa using (hcl 1 (by simp)).2.1
    have z1 : w1.cell? ⟨g, 7, none⟩ = some (.int .i64 z.n) := by simpa using (hcl 2 (by simp)).2.1
    have hc0 : w1.cell? ⟨w.heap.size, 0, none⟩ = some (.string ⟨#[]⟩) := hb1.cell 0
    have hc1 : w1.cell? ⟨w.heap.size, 1, none⟩ = some (.int .i64 0) := hb1.cell 1
    have hc2 : w1.cell? ⟨w.heap.size, 2, none⟩ = some (.int .i64 0) := hb1.cell 2
    have hf0 := hb1.frozen 0
    have hf1 := hb1.frozen 1
    have hf2 := hb1.frozen 2
    have hb2 := ((hb1.set_ 0 (.string x.s)).set_ 1 (.int .i64 z.n)).set_ 2 (.int .i64 y.n)
    have hd0 := Lib.hid (hb2.cell 0)
    have hd1 := Lib.hid (hb2.cell 1)
    have hd2 := Lib.hid (hb2.cell 2)
    have HD := Lib.hid (HBE.out.1.trans (D1.mono HBE.out.1.size))
    have HP := Lib.hid hp
    have hng : w.heap.size ≠ g := fun e => hgn e.symm
    clear hp hby b1 hb1 hb2 hcl hpt how hkn
    simp only [List.length_cons, List.length_nil, Nat.zero_add]
    go_wp2_with fail
    go_region_held3 (fun W => W.cell? ⟨g, 2, none⟩ = some (.string x.s) ∧ W.cell? ⟨g, 7, none⟩ = some (.int .i64 z.n) ∧ W.cell? ⟨g, 4, none⟩ = some (.int .i64 y.n)) (go_keep) (fail)
    all_goals (go_wp2_with fail)
    have e0 := hd0.out
    have e1 := hd1.out
    have e2 := hd2.out
    refine bodyPost_ret (v := .tuple #[paneV x.s z.n y.n, .bool true]) ?_ rfl ?_
    · simp [results, Try.results53, go_sem, paneV, e0, e1, e2]
    · rw [HP.out]
      exact ⟨x, y, z, rfl, rfl, (((HD.out.setCell (Nat.le_refl _) _).setCell (Nat.le_refl _) _).setCell (Nat.le_refl _) _).drew⟩
/-- A pane that a text tells in the order of the secondary rows. -/
def OfS (w : World) (o : Option (List Ky.Part)) (e : Ending) (w' : World) : Prop := match o with
  | none => e = .returned (.tuple #[paneV ⟨#[]⟩ 0 0, .bool false]) ∧ Below w.heap.size w w'
  | some l => ∃ x y z : PT, l = tos [x, y, z] ∧ e = .returned (.tuple #[paneV y.s z.n x.n, .bool true]) ∧ Below w.heap.size w w'
set_option maxRecDepth 100000 in
set_option maxHeartbeats 2000000 in
theorem refOfSecondary_any (s : ByteArray) (w : World) (hs : s.size ≤ 1000000) : Calls Try.prog 52 #[.string s] w (OfS w (Ky.parse (nums s) [1, 2, 1])) := by
  obtain ⟨w0, hw0⟩ : ∃ w0, w.alloc (.cells #[.string ⟨#[]⟩, .int .i64 0, .int .i64 0] 34) = w0 := ⟨_, rfl⟩
  have hbk := Blk.new w 34 #[.string ⟨#[]⟩, .int .i64 0, .int .i64 0]
  have hbe : Below w.heap.size w (w.alloc (.cells #[.string ⟨#[]⟩, .int .i64 0, .int .i64 0] 34)) := (Below.refl _ _).alloc (Nat.le_refl _) _
  have hz : (w.alloc (.cells #[.string ⟨#[]⟩, .int .i64 0, .int .i64 0] 34)).heap.size = w.heap.size + 1 := by simp
  rw [hw0] at hbk hbe hz
  have HBE := Lib.hid (And.intro hbe (And.intro hbk hz))
  clear hbk hbe hz
  go_enter Try.func52, Try.ntmps52
  go_wp2_with fail
  clear hw0
  have hby := (bytes_lit3 w0 5 1 2 1 (by omega) (by omega) (by omega))
  refine (refParse_any s 3 3 _ _ [1, 2, 1] _ hby (by simp) hs (by omega)).mono ?_
  intro e w1 h
  rcases hp : Ky.parse (nums s) [1, 2, 1] with _ | l
  · rw [hp] at h
    obtain ⟨rfl, b1⟩ := h
    have D1 : Below w0.heap.size w0 w1 := ((Below.refl _ _).alloc (Nat.le_refl _) _).trans (b1.mono (by simp))
    have hb1 := HBE.out.2.1.below D1 (by rw [HBE.out.2.2]; omega)
    have hc0 := hb1.cell 0
    have hc1 := hb1.cell 1
    have hc2 := hb1.cell 2
    have hf0 := hb1.frozen 0
    have hf1 := hb1.frozen 1
    have hf2 := hb1.frozen 2
    have hb2 := ((hb1.set_ 0 (.string ⟨#[]⟩)).set_ 1 (.int .i64 0)).set_ 2 (.int .i64 0)
    have hd0 := Lib.hid (hb2.cell 0)
    have hd1 := Lib.hid (hb2.cell 1)
    have hd2 := Lib.hid (hb2.cell 2)
    have HD := Lib.hid (HBE.out.1.trans (D1.mono HBE.out.1.size))
    have HP := Lib.hid hp
    clear hp hby b1 hb1 hb2
    go_wp2_with fail
    have e0 := hd0.out
    have e1 := hd1.out
    have e2 := hd2.out
    refine bodyPost_ret (v := .tuple #[paneV ⟨#[]⟩ 0 0, .bool false]) ?_ rfl ?_
    · simp [results, Try.results52, go_sem, paneV, e0, e1, e2]
    · rw [HP.out]
      exact ⟨rfl, ((HD.out.setCell (Nat.le_refl _) _).setCell (Nat.le_refl _) _).setCell (Nat.le_refl _) _⟩
  · rw [hp] at h
    obtain ⟨lp, A, c, rfl, rfl, hpt, how, b1⟩ := h
    have hkn := ((Ky.parse_iff (nums s) [1, 2, 1] (nums_byte s) (tos lp)).1 hp).1
    obtain ⟨x, y, z, rfl⟩ := tos_three hkn
    obtain ⟨g, cap, hv, hg1, hg2⟩ := how.form (by simp)
    injection hv with hv1 hv2 hv3
    subst hv1 hv3
    have D1 : Below w0.heap.size w0 w1 := ((Below.refl _ _).alloc (Nat.le_refl _) _).trans (b1.mono (by simp))
    have hb1 := HBE.out.2.1.below D1 (by rw [HBE.out.2.2]; omega)
    have hgn : g ≠ w.heap.size := by have h1 := HBE.out.2.2; simp at hg1; omega
    obtain ⟨b', off', he, hbb, hcl⟩ := hpt.2.2 (by simp)
    injection he with he
    injection he with he1 he2
    subst he1 he2
    have x2 : w1.cell? ⟨g, 5, none⟩ = some (.string y.s) := by simpa using (hcl 1 (by simp)).2.2
    have y1 : w1.cell? ⟨g, 1, none⟩ = some (.int .i64 x.n) := by simpa using (hcl 0 (by simp)).2.1
    have z1 : w1.cell? ⟨g, 7, none⟩ = some (.int .i64 z.n) := by simpa using (hcl 2 (by simp)).2.1
    have hc0 : w1.cell? ⟨w.heap.size, 0, none⟩ = some (.string ⟨#[]⟩) := hb1.cell 0
    have hc1 : w1.cell? ⟨w.heap.size, 1, none⟩ = some (.int .i64 0) := hb1.cell 1
    have hc2 : w1.cell? ⟨w.heap.size, 2, none⟩ = some (.int .i64 0) := hb1.cell 2
    have hf0 := hb1.frozen 0
    have hf1 := hb1.frozen 1
    have hf2 := hb1.frozen 2
    have hb2 := ((hb1.set_ 0 (.string y.s)).set_ 1 (.int .i64 z.n)).set_ 2 (.int .i64 x.n)
    have hd0 := Lib.hid (hb2.cell 0)
    have hd1 := Lib.hid (hb2.cell 1)
    have hd2 := Lib.hid (hb2.cell 2)
    have HD := Lib.hid (HBE.out.1.trans (D1.mono HBE.out.1.size))
    have HP := Lib.hid hp
    have hng : w.heap.size ≠ g := fun e => hgn e.symm
    clear hp hby b1 hb1 hb2 hcl hpt how hkn
    simp only [List.length_cons, List.length_nil, Nat.zero_add]
    go_wp2_with fail
    go_region_held3 (fun W => W.cell? ⟨g, 5, none⟩ = some (.string y.s) ∧ W.cell? ⟨g, 7, none⟩ = some (.int .i64 z.n) ∧ W.cell? ⟨g, 1, none⟩ = some (.int .i64 x.n)) (go_keep) (fail)
    all_goals (go_wp2_with fail)
    have e0 := hd0.out
    have e1 := hd1.out
    have e2 := hd2.out
    refine bodyPost_ret (v := .tuple #[paneV y.s z.n x.n, .bool true]) ?_ rfl ?_
    · simp [results, Try.results52, go_sem, paneV, e0, e1, e2]
    · rw [HP.out]
      exact ⟨x, y, z, rfl, rfl, (((HD.out.setCell (Nat.le_refl _) _).setCell (Nat.le_refl _) _).setCell (Nat.le_refl _) _).drew⟩
end Go.Proofs.Ytponelbfddfliaa
