/- Layer 6, the program: operations taken of a reader. -/
import Derived.Test.YtbcdacfmhjgfiaaEvX
namespace Go.Proofs.Ytbcdacfmhjgfiaa
open Go.ChangeShapes Go.WideShapes Go.ChangeAt Go.RowKit

section
variable {a w w' : World} {row : Option Nat}
theorem grown_below (h : a.grownBy w row) (hb : Below w.heap.size w w') : a.grownBy w' row :=
  ⟨hb.os.trans h.os, hb.tape.trans h.tape, hb.output.trans h.output, Nat.le_trans h.size hb.size, fun k hk hr => (hb.block k (Nat.lt_of_lt_of_le hk h.size)).trans (h.block k hk hr)⟩
theorem grown_alloc (h : a.grownBy w row) (o : Obj) : a.grownBy (w.alloc o) row := grown_below h ((Below.refl _ _).alloc (Nat.le_refl _) o)
theorem grown_set (h : a.grownBy w row) {b o : Nat} (hb : a.heap.size ≤ b) (u : Value) : a.grownBy (w.setCell ⟨b, o, none⟩ u) row :=
  ⟨h.os, h.tape, h.output, by simpa [World.setCell] using h.size, fun k hk hr => (Below.heap_setCell w ⟨b, o, none⟩ u k (by show k ≠ b; omega)).trans (h.block k hk hr)⟩
theorem grown_from {B : Nat} (hb : Below B a w) (hB : B = a.heap.size) : a.grownBy w row := by
  subst hB
  exact ⟨hb.os, hb.tape, hb.output, hb.size, fun k hk _ => hb.block k hk⟩
theorem grown_start {o : Obj} (h : (a.alloc o).grownBy w row) : a.grownBy w row :=
  ⟨h.os, h.tape, h.output, by have := h.size; simp at this; omega, fun k hk hr => (h.block k (by simp; omega) hr).trans (heap_alloc_old _ _ hk)⟩
theorem Rd.set_ {lo g b o : Nat} {l : List Nat} {f : Bool} (hr : Rd w lo g l f) (hb : g < b) (u : Value) : Rd (w.setCell ⟨b, o, none⟩ u) lo g l f := by
  obtain ⟨A, n, c, hk, hy, h1, h2, h3⟩ := hr
  exact ⟨A, n, c, hk.far (by omega) u, hy.keep fun x o' hx => World.cell?_of_block (a := ⟨x, o', none⟩) (Below.heap_setCell w ⟨b, o, none⟩ _ x (by show x ≠ b; omega)), h1, h2, h3⟩
end
/-- The blocks of the list stand in W, in which block g may be another one than in w, and new ones may have come. -/
def HeldR (w W : World) (g : Nat) (l : List (Nat × TypeId × Array Value)) : Prop := w.grownBy W (some g) ∧ ∀ x ∈ l, x.1 ≠ g ∧ w.heap.size ≤ x.1 ∧ Blk W x.1 x.2.1 x.2.2
section
variable {w W W' : World} {g : Nat} {l : List (Nat × TypeId × Array Value)}
theorem HeldR.start (w : World) (g : Nat) : HeldR w w g [] := ⟨World.grownBy.refl _ _, by simp⟩
theorem HeldR.step (h : HeldR w W g l) (b : Below W.heap.size W W') : HeldR w W' g l :=
  ⟨grown_below h.1 b, fun x hx => ⟨(h.2 x hx).1, (h.2 x hx).2.1, (h.2 x hx).2.2.below b (h.2 x hx).2.2.lt⟩⟩
theorem HeldR.turn (h : HeldR w W g l) (b : W.grownBy W' (some g)) : HeldR w W' g l :=
  ⟨h.1.trans b, fun x hx => ⟨(h.2 x hx).1, (h.2 x hx).2.1, (b.block x.1 (h.2 x hx).2.2.lt (fun e => (h.2 x hx).1 (by injection e))).trans (h.2 x hx).2.2⟩⟩
theorem HeldR.new (h : HeldR w W g l) (hg : g < w.heap.size) (cs : Array Value) (t : TypeId) : HeldR w (W.alloc (.cells cs t)) g ((W.heap.size, t, cs) :: l) := by
  have h1 := h.step ((Below.refl W.heap.size W).alloc (Nat.le_refl _) (.cells cs t))
  refine ⟨h1.1, fun x hx => ?_⟩
  rcases List.mem_cons.1 hx with rfl | hx
  · exact ⟨by have := h.1.size; simp; omega, h.1.size, Blk.new W t cs⟩
  · exact h1.2 x hx
theorem HeldR.set1 {b T : Nat} {cs : Array Value} (h : HeldR w W g ((b, T, cs) :: l)) (hl : ∀ x ∈ l, x.1 ≠ b) (i : Nat) (u : Value) : HeldR w (W.setCell ⟨b, i, none⟩ u) g ((b, T, cs.setIfInBounds i u) :: l) := by
  have h0 := h.2 _ (List.mem_cons_self ..)
  refine ⟨grown_set h.1 h0.2.1 u, fun x hx => ?_⟩
  rcases List.mem_cons.1 hx with rfl | hx
  · exact ⟨h0.1, h0.2.1, h0.2.2.set_ i u⟩
  · have hx2 := h.2 x (List.mem_cons_of_mem _ hx)
    exact ⟨hx2.1, hx2.2.1, hx2.2.2.far (fun e => hl x hx e.symm) u⟩
theorem HeldR.at_ {b : Nat} {t : TypeId} {cs : Array Value} (h : HeldR w W g l) (hm : (b, t, cs) ∈ l) : Blk W b t cs := (h.2 _ hm).2.2
theorem HeldR.top {b : Nat} {t : TypeId} {cs : Array Value} (h : HeldR w W g ((b, t, cs) :: l)) : Blk W b t cs := (h.2 _ (List.mem_cons_self ..)).2.2
theorem HeldR.sub {l' : List (Nat × TypeId × Array Value)} (h : HeldR w W g l) (hs : ∀ x ∈ l', x ∈ l) : HeldR w W g l' := ⟨h.1, fun x hx => h.2 x (hs x hx)⟩
end
def TakE (w : World) (lo g : Nat) (v : Value) (l : List Nat) (f : Bool) (e : Ending) (w' : World) : Prop := e = .returned v ∧ Rd w' lo g l f ∧ w.grownBy w' (some g)
abbrev zOp : Array Value := #[.int .u8 0, .string ⟨#[]⟩, .int .i64 0, .int .i64 0]
theorem cells4 {w : World} {g : Nat} {t : TypeId} {x y z u : Value} (h : Blk w g t #[x, y, z, u]) : (w.cell? ⟨g, 0, none⟩ = some x ∧ w.cell? ⟨g, 1, none⟩ = some y ∧ w.cell? ⟨g, 2, none⟩ = some z ∧ w.cell? ⟨g, 3, none⟩ = some u) ∧ w.frozen? ⟨g, 0, none⟩ = false ∧ w.frozen? ⟨g, 1, none⟩ = false ∧ w.frozen? ⟨g, 2, none⟩ = false ∧ w.frozen? ⟨g, 3, none⟩ = false :=
  ⟨⟨h.cell 0, h.cell 1, h.cell 2, h.cell 3⟩, h.frozen 0, h.frozen 1, h.frozen 2, h.frozen 3⟩
theorem HeldR.four {w W : World} {g b T : Nat} {l : List (Nat × TypeId × Array Value)} {x y z u : Value} (h : HeldR w W g ((b, T, #[x, y, z, u]) :: l)) (hl : ∀ x ∈ l, x.1 ≠ b) (x' y' z' u' : Value) : HeldR w ((((W.setCell ⟨b, 0, none⟩ x').setCell ⟨b, 1, none⟩ y').setCell ⟨b, 2, none⟩ z').setCell ⟨b, 3, none⟩ u') g ((b, T, #[x', y', z', u']) :: l) :=
  (((h.set1 hl 0 x').set1 hl 1 y').set1 hl 2 z').set1 hl 3 u'
theorem Rd.four {w : World} {lo g b : Nat} {l : List Nat} {f : Bool} (hr : Rd w lo g l f) (hb : g < b) (x y z u : Value) : Rd ((((w.setCell ⟨b, 0, none⟩ x).setCell ⟨b, 1, none⟩ y).setCell ⟨b, 2, none⟩ z).setCell ⟨b, 3, none⟩ u) lo g l f := (((hr.set_ hb x).set_ hb y).set_ hb z).set_ hb u
set_option maxRecDepth 100000 in
set_option maxHeartbeats 2000000 in
theorem takeEvent_any (lo g : Nat) (l : List Nat) (f : Bool) (w : World) (hr : Rd w lo g l f) : Calls Try.prog 37 #[.pointer (some ⟨g, 0, none⟩)] w (TakE w lo g (opV 1 (textOf (Pk.ttaken f l)) (sg (Pk.num (Pk.taken (Pk.tfails f l) (Pk.tleft f l) 8))) (sg (Pk.num (Pk.taken (Pk.fails (Pk.tfails f l) (Pk.tleft f l) 8) (Pk.left (Pk.tfails f l) (Pk.tleft f l) 8) 8))))
    (Pk.left (Pk.fails (Pk.tfails f l) (Pk.tleft f l) 8) (Pk.left (Pk.tfails f l) (Pk.tleft f l) 8) 8) (Pk.fails (Pk.fails (Pk.tfails f l) (Pk.tleft f l) 8) (Pk.left (Pk.tfails f l) (Pk.tleft f l) 8) 8)) := by
  have hg := hr.here
  have H0 := Lib.hid ((HeldR.start w g).new hg zOp 26)
  have R0 := Lib.hid (hr.below (w' := w.alloc (.cells zOp 26)) ((Below.refl w.heap.size w).alloc (Nat.le_refl _) _) hg)
  clear hr
  go_enter Try.func37, Try.ntmps37
  go_wp2_with fail
  refine (text_any lo g l f _ R0.out).mono ?_
  rintro e w1 ⟨rfl, hr1, hg1⟩
  have H1 := Lib.hid (H0.out.turn hg1)
  have R1 := Lib.hid hr1
  clear hr1 hg1
  go_wp2_with fail
  refine (int_any lo g _ _ _ R1.out).mono ?_
  rintro e w2 ⟨rfl, hr1, hg1⟩
  have H2 := Lib.hid (H1.out.turn hg1)
  have R2 := Lib.hid hr1
  clear hr1 hg1
  go_wp2_with fail
  refine (int_any lo g _ _ _ R2.out).mono ?_
  rintro e w3 ⟨rfl, hr1, hg1⟩
  have H3 := Lib.hid (H2.out.turn hg1)
  have R3 := Lib.hid hr1
  have hz3 : w.heap.size < w3.heap.size := H3.out.top.lt
  clear hr1 hg1
  go_wp2_with fail
  refine (evOf_any _ _ _ _).mono ?_
  rintro e w4 ⟨rfl, b4⟩
  have H4 := Lib.hid (H3.out.step b4)
  have R4 := Lib.hid (R3.out.below b4 (Nat.lt_trans hg hz3))
  obtain ⟨⟨c0, c1, c2, c3⟩, f0, f1, f2, f3⟩ := cells4 H4.out.top
  clear b4
  go_wp2_with fail
  clear c0 c1 c2 c3 f0 f1 f2 f3
  have H5 := Lib.hid (H4.out.four (by simp) (.int .u8 1) (.string (textOf (Pk.ttaken f l))) (.int .i64 (sg (Pk.num (Pk.taken (Pk.tfails f l) (Pk.tleft f l) 8)))) (.int .i64 (sg (Pk.num (Pk.taken (Pk.fails (Pk.tfails f l) (Pk.tleft f l) 8) (Pk.left (Pk.tfails f l) (Pk.tleft f l) 8) 8)))))
  have R5 := Lib.hid (R4.out.four hg (.int .u8 1) (.string (textOf (Pk.ttaken f l))) (.int .i64 (sg (Pk.num (Pk.taken (Pk.tfails f l) (Pk.tleft f l) 8)))) (.int .i64 (sg (Pk.num (Pk.taken (Pk.fails (Pk.tfails f l) (Pk.tleft f l) 8) (Pk.left (Pk.tfails f l) (Pk.tleft f l) 8) 8)))))
  obtain ⟨⟨c0, c1, c2, c3⟩, -⟩ := cells4 H5.out.top
  refine bodyPost_ret (v := opV 1 (textOf (Pk.ttaken f l)) (sg (Pk.num (Pk.taken (Pk.tfails f l) (Pk.tleft f l) 8))) (sg (Pk.num (Pk.taken (Pk.fails (Pk.tfails f l) (Pk.tleft f l) 8) (Pk.left (Pk.tfails f l) (Pk.tleft f l) 8) 8)))) ?_ rfl ⟨rfl, R5.out, H5.out.1⟩
  simp [results, Try.results37, go_sem, c0, c1, c2, c3]
set_option maxRecDepth 100000 in
set_option maxHeartbeats 2000000 in
theorem takeMark_any (lo g : Nat) (l : List Nat) (f : Bool) (w : World) (hr : Rd w lo g l f) : Calls Try.prog 40 #[.pointer (some ⟨g, 0, none⟩)] w (TakE w lo g (opV 2 ⟨#[]⟩ (sg (Pk.num (Pk.taken f l 8))) 0) (Pk.left f l 8) (Pk.fails f l 8)) := by
  have hg := hr.here
  have H0 := Lib.hid ((HeldR.start w g).new hg zOp 26)
  have R0 := Lib.hid (hr.below (w' := w.alloc (.cells zOp 26)) ((Below.refl w.heap.size w).alloc (Nat.le_refl _) _) hg)
  clear hr
  go_enter Try.func40, Try.ntmps40
  go_wp2_with fail
  refine (int_any lo g _ _ _ R0.out).mono ?_
  rintro e w3 ⟨rfl, hr1, hg1⟩
  have H3 := Lib.hid (H0.out.turn hg1)
  have R3 := Lib.hid hr1
  have hz3 : w.heap.size < w3.heap.size := H3.out.top.lt
  clear hr1 hg1
  go_wp2_with fail
  refine (evAt_any _ _).mono ?_
  rintro e w4 ⟨rfl, b4⟩
  have H4 := Lib.hid (H3.out.step b4)
  have R4 := Lib.hid (R3.out.below b4 (Nat.lt_trans hg hz3))
  obtain ⟨⟨c0, c1, c2, c3⟩, f0, f1, f2, f3⟩ := cells4 H4.out.top
  clear b4
  go_wp2_with fail
  clear c0 c1 c2 c3 f0 f1 f2 f3
  have H5 := Lib.hid (H4.out.four (by simp) (.int .u8 2) (.string ⟨#[]⟩) (.int .i64 (sg (Pk.num (Pk.taken f l 8)))) (.int .i64 0))
  have R5 := Lib.hid (R4.out.four hg (.int .u8 2) (.string ⟨#[]⟩) (.int .i64 (sg (Pk.num (Pk.taken f l 8)))) (.int .i64 0))
  obtain ⟨⟨c0, c1, c2, c3⟩, -⟩ := cells4 H5.out.top
  refine bodyPost_ret (v := opV 2 ⟨#[]⟩ (sg (Pk.num (Pk.taken f l 8))) 0) ?_ rfl ⟨rfl, R5.out, H5.out.1⟩
  simp [results, Try.results40, go_sem, c0, c1, c2, c3]
end Go.Proofs.Ytbcdacfmhjgfiaa
