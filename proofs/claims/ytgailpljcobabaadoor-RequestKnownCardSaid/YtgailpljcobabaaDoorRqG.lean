/- Layer 9, the program: parts taken; Parse; Id. -/
import Derived.Test.YtgailpljcobabaaDoorRqF
import Derived.Test.YtgailpljcobabaaDoorRqS
namespace Go.Proofs.YtgailpljcobabaaDoor
open Go.ChangeShapes Go.WideShapes Go.ChangeAt Go.RowKit

theorem Rd.blk {w : World} {lo g : Nat} {l : List Nat} {f : Bool} (h : Rd w lo g l f) : ∃ cs, Blk w g 99 cs := by
  obtain ⟨A, n, c, hb, _⟩ := h
  exact ⟨_, hb⟩
theorem Rd.kept {w w' : World} {lo g h : Nat} {l : List Nat} {f : Bool} (hr : Rd w lo g l f) (hg : w.grownBy w' (some h)) (hh : g < h ∨ h < lo) (hlg : lo ≤ g) : Rd w' lo g l f := by
  have hlt := hr.here
  obtain ⟨A, n, c, hb, hy, h1, h2, h3⟩ := hr
  have hblk : ∀ k, lo ≤ k → k ≤ g → w'.heap[k]? = w.heap[k]? := fun k hk1 hk2 => hg.block k (by omega) (fun e => by injection e with e; omega)
  exact ⟨A, n, c, (hblk g (by omega) (Nat.le_refl _)).trans hb, hy.keepIn h3 (fun b o hb1 hb2 => World.cell?_of_block (a := ⟨b, o, none⟩) (hblk b hb1 (by omega))), h1, h2, h3⟩
/-- A reader at g, in a call's own memory; s is left to it. -/
def Tk (w0 W : World) (g : Nat) (s : Rq.St) : Prop := Rd W w0.heap.size g s.1 s.2 ∧ Below w0.heap.size w0 W ∧ w0.heap.size ≤ g
theorem Tk.below {w0 W W' : World} {g : Nat} {s : Rq.St} (h : Tk w0 W g s) (b : Below W.heap.size W W') : Tk w0 W' g s := ⟨h.1.below b h.1.here, below_next h.2.1 b, h.2.2⟩
theorem Tk.reads {w0 W W' : World} {g : Nat} {s s' : Rq.St} (h : Tk w0 W g s) (hr : Rd W' w0.heap.size g s'.1 s'.2) (hg : W.grownBy W' (some g)) : Tk w0 W' g s' :=
  ⟨hr, h.2.1.trans ⟨hg.os, hg.tape, hg.output, hg.size, fun k hk => hg.block k (by have := h.2.1.size; omega) (fun e => by injection e with e; have := h.2.2; omega)⟩, h.2.2⟩
theorem Tk.its {w0 W W' : World} {g : Nat} {s : Rq.St} (h : Tk w0 W g s) (hg : W.grownBy W' (some g)) : Its W W' := by
  obtain ⟨cs, hb⟩ := h.1.blk
  exact Its.grown hg hb
theorem Tk.put {w0 W W' : World} {g R : Nat} {s : Rq.St} (h : Tk w0 W g s) (hR : g < R) (hg : W.grownBy W' (some R)) : Tk w0 W' g s :=
  ⟨h.1.kept hg (.inl hR) h.2.2, h.2.1.trans ⟨hg.os, hg.tape, hg.output, hg.size, fun k hk => hg.block k (by have := h.2.1.size; omega) (fun e => by injection e with e; have := h.2.2; omega)⟩, h.2.2⟩
/-- The request at R has been filled so far. -/
def TkB (w0 W : World) (g R : Nat) (s : Rq.St) (cs : Array Value) : Prop := Tk w0 W g s ∧ Blk W R 26 cs ∧ g < R
theorem TkB.below {w0 W W' : World} {g R : Nat} {s : Rq.St} {cs : Array Value} (h : TkB w0 W g R s cs) (b : Below W.heap.size W W') : TkB w0 W' g R s cs := ⟨h.1.below b, h.2.1.below b h.2.1.lt, h.2.2⟩
theorem TkB.it {w0 W : World} {g R k : Nat} {s : Rq.St} {cs : Array Value} {S : ByteArray} {p q : Nat} (hk : R ≤ k) (h : TkB w0 W g R s cs) (hi : W.heap[k]? = some (.stringIter S p)) : TkB w0 (W.iterAt k S q) g R s cs := by
  have gr := grown_iter W k S q
  exact ⟨h.1.put (by have := h.2.2; omega) gr, (gr.block R h.2.1.lt (fun e => it_ne hi h.2.1 (by injection e))).trans h.2.1, h.2.2⟩
theorem tk_u8 {w0 W : World} {g : Nat} {s : Rq.St} (h : Tk w0 W g s) : Calls Tryd.prog 39 #[.pointer (some ⟨g, 0, none⟩)] W fun e W' => e = .returned (.int .u8 ((Rq.vl s 1 : Nat) : Int)) ∧ Tk w0 W' g (Rq.nx s 1) ∧ W.grownBy W' (some g) :=
  (u8_any _ g s.1 s.2 W h.1).mono fun _ _ hp => ⟨hp.1, h.reads (s' := Rq.nx s 1) hp.2.1 hp.2.2, hp.2.2⟩
theorem tk_u16 {w0 W : World} {g : Nat} {s : Rq.St} (h : Tk w0 W g s) : Calls Tryd.prog 102 #[.pointer (some ⟨g, 0, none⟩)] W fun e W' => e = .returned (.int .u16 ((Rq.vl s 2 : Nat) : Int)) ∧ Tk w0 W' g (Rq.nx s 2) ∧ W.grownBy W' (some g) :=
  (u16_any _ g s.1 s.2 W h.1).mono fun _ _ hp => ⟨hp.1, h.reads (s' := Rq.nx s 2) hp.2.1 hp.2.2, hp.2.2⟩
theorem tk_u32 {w0 W : World} {g : Nat} {s : Rq.St} (h : Tk w0 W g s) : Calls Tryd.prog 40 #[.pointer (some ⟨g, 0, none⟩)] W fun e W' => e = .returned (.int .u32 ((Rq.vl s 4 : Nat) : Int)) ∧ Tk w0 W' g (Rq.nx s 4) ∧ W.grownBy W' (some g) :=
  (u32_any _ g s.1 s.2 W h.1).mono fun _ _ hp => ⟨hp.1, h.reads (s' := Rq.nx s 4) hp.2.1 hp.2.2, hp.2.2⟩
theorem tk_u64 {w0 W : World} {g : Nat} {s : Rq.St} (h : Tk w0 W g s) : Calls Tryd.prog 103 #[.pointer (some ⟨g, 0, none⟩)] W fun e W' => e = .returned (.int .u64 ((Rq.vl s 8 : Nat) : Int)) ∧ Tk w0 W' g (Rq.nx s 8) ∧ W.grownBy W' (some g) :=
  (u64_any _ g s.1 s.2 W h.1).mono fun _ _ hp => ⟨hp.1, h.reads (s' := Rq.nx s 8) hp.2.1 hp.2.2, hp.2.2⟩
theorem tk_whole {w0 W : World} {g : Nat} {s : Rq.St} (h : Tk w0 W g s) : Calls Tryd.prog 95 #[.pointer (some ⟨g, 0, none⟩)] W fun e W' => e = .returned (.int .i64 (sg (Rq.vl s 8))) ∧ Tk w0 W' g (Rq.nx s 8) ∧ W.grownBy W' (some g) :=
  (int_any _ g s.1 s.2 W h.1).mono fun _ _ hp => ⟨hp.1, h.reads (s' := Rq.nx s 8) hp.2.1 hp.2.2, hp.2.2⟩
theorem tk_text {w0 W : World} {g : Nat} {s : Rq.St} (h : Tk w0 W g s) : Calls Tryd.prog 101 #[.pointer (some ⟨g, 0, none⟩)] W fun e W' => e = .returned (.string (Rq.tt s)) ∧ Tk w0 W' g (Rq.tx s) ∧ W.grownBy W' (some g) :=
  (text_any _ g s.1 s.2 W h.1).mono fun _ _ hp => ⟨hp.1, h.reads (s' := Rq.tx s) hp.2.1 hp.2.2, hp.2.2⟩
set_option maxRecDepth 100000 in
theorem take_u8 (w0 W : World) (g R i : Nat) (s : Rq.St) (cs : Array Value) (h : TkB w0 W g R s cs) (hi : i < cs.size) :
    Calls Tryd.prog 99 #[.agg #[.pointer (some ⟨g, 0, none⟩)], .pointer (some ⟨R, i, none⟩)] W fun e W' => e = .returned (.tuple #[]) ∧ TkB w0 W' g R (Rq.nx s 1) (cs.setIfInBounds i (.int .u8 ((Rq.vl s 1 : Nat) : Int))) ∧ Its W W' := by
  have b0 : Below W.heap.size W (W.alloc (.cells #[.pointer (some ⟨g, 0, none⟩)] 71)) := (Below.refl _ _).alloc (Nat.le_refl _) _
  have h0 := h.below b0
  have kt : (W.alloc (.cells #[.pointer (some ⟨g, 0, none⟩)] 71)).cell? ⟨W.heap.size, 0, none⟩ = some (.pointer (some ⟨g, 0, none⟩)) := (Blk.new W _ _).cell 0
  have H := Lib.hid (And.intro h0 (And.intro hi (Its.below b0)))
  obtain ⟨v, hv⟩ : ∃ v, Rq.vl s 1 = v := ⟨_, rfl⟩
  have CT := Lib.hid (tk_u8 h0.1)
  rw [hv] at CT ⊢
  clear b0 h0 h hi hv
  go_enter Tryd.func99, Tryd.ntmps99
  go_wp2_with fail
  refine CT.out.mono ?_
  rintro e w1 ⟨rfl, ht, hg⟩
  have K1 : Blk w1 R 26 cs := (hg.block R H.out.1.2.1.lt (fun e => by injection e with e; have := H.out.1.2.2; omega)).trans H.out.1.2.1
  have c1 : w1.cell? ⟨R, i, none⟩ = some (cs[i]'H.out.2.1) := (K1.cell i).trans (Array.getElem?_eq_getElem _)
  have f1 := K1.frozen i
  have H1 := Lib.hid (And.intro ht (And.intro K1 (H.out.2.2.trans (H.out.1.1.its hg))))
  clear ht hg K1
  go_wp2_with fail
  go_end0
  exact ⟨rfl, ⟨H1.out.1.put H.out.1.2.2 (grown_set i _), H1.out.2.1.set_ i _, H.out.1.2.2⟩, H1.out.2.2.trans (its_set H1.out.2.1)⟩
set_option maxRecDepth 100000 in
theorem take_u16 (w0 W : World) (g R i : Nat) (s : Rq.St) (cs : Array Value) (h : TkB w0 W g R s cs) (hi : i < cs.size) :
    Calls Tryd.prog 97 #[.agg #[.pointer (some ⟨g, 0, none⟩)], .pointer (some ⟨R, i, none⟩)] W fun e W' => e = .returned (.tuple #[]) ∧ TkB w0 W' g R (Rq.nx s 2) (cs.setIfInBounds i (.int .u16 ((Rq.vl s 2 : Nat) : Int))) ∧ Its W W' := by
  have b0 : Below W.heap.size W (W.alloc (.cells #[.pointer (some ⟨g, 0, none⟩)] 71)) := (Below.refl _ _).alloc (Nat.le_refl _) _
  have h0 := h.below b0
  have kt : (W.alloc (.cells #[.pointer (some ⟨g, 0, none⟩)] 71)).cell? ⟨W.heap.size, 0, none⟩ = some (.pointer (some ⟨g, 0, none⟩)) := (Blk.new W _ _).cell 0
  have H := Lib.hid (And.intro h0 (And.intro hi (Its.below b0)))
  obtain ⟨v, hv⟩ : ∃ v, Rq.vl s 2 = v := ⟨_, rfl⟩
  have CT := Lib.hid (tk_u16 h0.1)
  rw [hv] at CT ⊢
  clear b0 h0 h hi hv
  go_enter Tryd.func97, Tryd.ntmps97
  go_wp2_with fail
  refine CT.out.mono ?_
  rintro e w1 ⟨rfl, ht, hg⟩
  have K1 : Blk w1 R 26 cs := (hg.block R H.out.1.2.1.lt (fun e => by injection e with e; have := H.out.1.2.2; omega)).trans H.out.1.2.1
  have c1 : w1.cell? ⟨R, i, none⟩ = some (cs[i]'H.out.2.1) := (K1.cell i).trans (Array.getElem?_eq_getElem _)
  have f1 := K1.frozen i
  have H1 := Lib.hid (And.intro ht (And.intro K1 (H.out.2.2.trans (H.out.1.1.its hg))))
  clear ht hg K1
  go_wp2_with fail
  go_end0
  exact ⟨rfl, ⟨H1.out.1.put H.out.1.2.2 (grown_set i _), H1.out.2.1.set_ i _, H.out.1.2.2⟩, H1.out.2.2.trans (its_set H1.out.2.1)⟩
set_option maxRecDepth 100000 in
theorem take_u64 (w0 W : World) (g R i : Nat) (s : Rq.St) (cs : Array Value) (h : TkB w0 W g R s cs) (hi : i < cs.size) :
    Calls Tryd.prog 98 #[.agg #[.pointer (some ⟨g, 0, none⟩)], .pointer (some ⟨R, i, none⟩)] W fun e W' => e = .returned (.tuple #[]) ∧ TkB w0 W' g R (Rq.nx s 8) (cs.setIfInBounds i (.int .u64 ((Rq.vl s 8 : Nat) : Int))) ∧ Its W W' := by
  have b0 : Below W.heap.size W (W.alloc (.cells #[.pointer (some ⟨g, 0, none⟩)] 71)) := (Below.refl _ _).alloc (Nat.le_refl _) _
  have h0 := h.below b0
  have kt : (W.alloc (.cells #[.pointer (some ⟨g, 0, none⟩)] 71)).cell? ⟨W.heap.size, 0, none⟩ = some (.pointer (some ⟨g, 0, none⟩)) := (Blk.new W _ _).cell 0
  have H := Lib.hid (And.intro h0 (And.intro hi (Its.below b0)))
  obtain ⟨v, hv⟩ : ∃ v, Rq.vl s 8 = v := ⟨_, rfl⟩
  have CT := Lib.hid (tk_u64 h0.1)
  rw [hv] at CT ⊢
  clear b0 h0 h hi hv
  go_enter Tryd.func98, Tryd.ntmps98
  go_wp2_with fail
  refine CT.out.mono ?_
  rintro e w1 ⟨rfl, ht, hg⟩
  have K1 : Blk w1 R 26 cs := (hg.block R H.out.1.2.1.lt (fun e => by injection e with e; have := H.out.1.2.2; omega)).trans H.out.1.2.1
  have c1 : w1.cell? ⟨R, i, none⟩ = some (cs[i]'H.out.2.1) := (K1.cell i).trans (Array.getElem?_eq_getElem _)
  have f1 := K1.frozen i
  have H1 := Lib.hid (And.intro ht (And.intro K1 (H.out.2.2.trans (H.out.1.1.its hg))))
  clear ht hg K1
  go_wp2_with fail
  go_end0
  exact ⟨rfl, ⟨H1.out.1.put H.out.1.2.2 (grown_set i _), H1.out.2.1.set_ i _, H.out.1.2.2⟩, H1.out.2.2.trans (its_set H1.out.2.1)⟩
set_option maxRecDepth 100000 in
theorem take_whole (w0 W : World) (g R i : Nat) (s : Rq.St) (cs : Array Value) (h : TkB w0 W g R s cs) (hi : i < cs.size) :
    Calls Tryd.prog 100 #[.agg #[.pointer (some ⟨g, 0, none⟩)], .pointer (some ⟨R, i, none⟩)] W fun e W' => e = .returned (.tuple #[]) ∧ TkB w0 W' g R (Rq.nx s 8) (cs.setIfInBounds i (.int .i64 (sg (Rq.vl s 8)))) ∧ Its W W' := by
  have b0 : Below W.heap.size W (W.alloc (.cells #[.pointer (some ⟨g, 0, none⟩)] 71)) := (Below.refl _ _).alloc (Nat.le_refl _) _
  have h0 := h.below b0
  have kt : (W.alloc (.cells #[.pointer (some ⟨g, 0, none⟩)] 71)).cell? ⟨W.heap.size, 0, none⟩ = some (.pointer (some ⟨g, 0, none⟩)) := (Blk.new W _ _).cell 0
  have H := Lib.hid (And.intro h0 (And.intro hi (Its.below b0)))
  obtain ⟨v, hv⟩ : ∃ v, sg (Rq.vl s 8) = v := ⟨_, rfl⟩
  have CT := Lib.hid (tk_whole h0.1)
  rw [hv] at CT ⊢
  clear b0 h0 h hi hv
  go_enter Tryd.func100, Tryd.ntmps100
  go_wp2_with fail
  refine CT.out.mono ?_
  rintro e w1 ⟨rfl, ht, hg⟩
  have K1 : Blk w1 R 26 cs := (hg.block R H.out.1.2.1.lt (fun e => by injection e with e; have := H.out.1.2.2; omega)).trans H.out.1.2.1
  have c1 : w1.cell? ⟨R, i, none⟩ = some (cs[i]'H.out.2.1) := (K1.cell i).trans (Array.getElem?_eq_getElem _)
  have f1 := K1.frozen i
  have H1 := Lib.hid (And.intro ht (And.intro K1 (H.out.2.2.trans (H.out.1.1.its hg))))
  clear ht hg K1
  go_wp2_with fail
  go_end0
  exact ⟨rfl, ⟨H1.out.1.put H.out.1.2.2 (grown_set i _), H1.out.2.1.set_ i _, H.out.1.2.2⟩, H1.out.2.2.trans (its_set H1.out.2.1)⟩
set_option maxRecDepth 100000 in
theorem take_text (w0 W : World) (g R i : Nat) (s : Rq.St) (cs : Array Value) (h : TkB w0 W g R s cs) (hi : i < cs.size) :
    Calls Tryd.prog 96 #[.agg #[.pointer (some ⟨g, 0, none⟩)], .pointer (some ⟨R, i, none⟩)] W fun e W' => e = .returned (.tuple #[]) ∧ TkB w0 W' g R (Rq.tx s) (cs.setIfInBounds i (.string (Rq.tt s))) ∧ Its W W' := by
  have b0 : Below W.heap.size W (W.alloc (.cells #[.pointer (some ⟨g, 0, none⟩)] 71)) := (Below.refl _ _).alloc (Nat.le_refl _) _
  have h0 := h.below b0
  have kt : (W.alloc (.cells #[.pointer (some ⟨g, 0, none⟩)] 71)).cell? ⟨W.heap.size, 0, none⟩ = some (.pointer (some ⟨g, 0, none⟩)) := (Blk.new W _ _).cell 0
  have H := Lib.hid (And.intro h0 (And.intro hi (Its.below b0)))
  obtain ⟨v, hv⟩ : ∃ v, Rq.tt s = v := ⟨_, rfl⟩
  have CT := Lib.hid (tk_text h0.1)
  rw [hv] at CT ⊢
  clear b0 h0 h hi hv
  go_enter Tryd.func96, Tryd.ntmps96
  go_wp2_with fail
  refine CT.out.mono ?_
  rintro e w1 ⟨rfl, ht, hg⟩
  have K1 : Blk w1 R 26 cs := (hg.block R H.out.1.2.1.lt (fun e => by injection e with e; have := H.out.1.2.2; omega)).trans H.out.1.2.1
  have c1 : w1.cell? ⟨R, i, none⟩ = some (cs[i]'H.out.2.1) := (K1.cell i).trans (Array.getElem?_eq_getElem _)
  have f1 := K1.frozen i
  have H1 := Lib.hid (And.intro ht (And.intro K1 (H.out.2.2.trans (H.out.1.1.its hg))))
  clear ht hg K1
  go_wp2_with fail
  go_end0
  exact ⟨rfl, ⟨H1.out.1.put H.out.1.2.2 (grown_set i _), H1.out.2.1.set_ i _, H.out.1.2.2⟩, H1.out.2.2.trans (its_set H1.out.2.1)⟩
def takF (i : Nat) : FuncId := if i = 2 then 99 else if i = 3 then 97 else if i = 4 then 98 else if i = 5 then 98 else if i = 6 then 99 else if i = 7 then 96 else if i = 8 then 96 else 100
theorem tak_visitor (g : Nat) : Visitor 71 (.agg #[.pointer (some ⟨g, 0, none⟩)]) (.agg #[.pointer (some ⟨g, 0, none⟩)]) takF where
  u8 i hi := by
    rcases hi with rfl | rfl <;> exact ⟨fun _ => by kernel_rfl, fun _ _ => by kernel_rfl, fun _ => by kernel_rfl⟩
  u16 := ⟨fun _ => by kernel_rfl, fun _ _ => by kernel_rfl, fun _ => by kernel_rfl⟩
  u64 i hi := by
    rcases hi with rfl | rfl <;> exact ⟨fun _ => by kernel_rfl, fun _ _ => by kernel_rfl, fun _ => by kernel_rfl⟩
  text i hi := by
    rcases hi with rfl | rfl <;> exact ⟨fun _ => by kernel_rfl, fun _ _ => by kernel_rfl, fun _ => by kernel_rfl⟩
  whole i hi := by
    rcases hi with rfl | rfl <;> exact ⟨fun _ => by kernel_rfl, fun _ _ => by kernel_rfl, fun _ => by kernel_rfl⟩
theorem take_part (w0 W : World) (g R i : Nat) (σ : Rq.Sg) (h : TkB w0 W g R σ.s σ.x.cells) (hi : 2 ≤ i ∧ i ≤ 10) :
    Calls Tryd.prog (takF i) #[.agg #[.pointer (some ⟨g, 0, none⟩)], .pointer (some ⟨R, i, none⟩)] W fun e W' => e = .returned (.tuple #[]) ∧ TkB w0 W' g R (σ.step i).s (σ.step i).x.cells ∧ Its W W' := by
  have hz : i < σ.x.cells.size := by rw [Rq.V.cells_size]; omega
  rcases Rq.field_cases hi with rfl | rfl | rfl | rfl | rfl | rfl | rfl | rfl | rfl
  · exact take_u8 w0 W g R 2 σ.s _ h hz
  · exact take_u16 w0 W g R 3 σ.s _ h hz
  · exact take_u64 w0 W g R 4 σ.s _ h hz
  · exact take_u64 w0 W g R 5 σ.s _ h hz
  · exact take_u8 w0 W g R 6 σ.s _ h hz
  · exact take_text w0 W g R 7 σ.s _ h hz
  · exact take_text w0 W g R 8 σ.s _ h hz
  · exact take_whole w0 W g R 9 σ.s _ h hz
  · exact take_whole w0 W g R 10 σ.s _ h hz
theorem take_steps (w0 : World) (g R : Nat) (σ : Rq.Sg) : Steps R R (.agg #[.pointer (some ⟨g, 0, none⟩)]) takF (fun l wr => TkB w0 wr g R (l.foldl Rq.Sg.step σ).s (l.foldl Rq.Sg.step σ).x.cells) where
  below _ _ _ h b := h.below b
  iter _ _ _ _ _ _ hk h hi := h.it hk hi
  step l i wr _ hi h := by
    rw [List.foldl_append]
    exact take_part w0 wr g R i _ h hi
theorem take_visit (w0 W : World) (g R k : Nat) (σ : Rq.Sg) (h : TkB w0 W g R σ.s σ.x.cells) (hV : Vars W) (hk : σ.x.k = k) (hk2 : k < 256) :
    Calls Tryd.prog 30 #[.pointer (some ⟨R, 0, none⟩), .iface 71 (.agg #[.pointer (some ⟨g, 0, none⟩)])] W fun e W' => e = .returned (.tuple #[]) ∧ TkB w0 W' g R ((Rq.fparts k).foldl Rq.Sg.step σ).s ((Rq.fparts k).foldl Rq.Sg.step σ).x.cells := by
  subst hk
  exact visit_any R R _ σ.x.k _ _ takF _ (take_steps w0 g R σ) (tak_visitor g) W hV hk2 (Nat.le_of_lt h.2.1.lt) (h.2.1.cell 0) h
/-- What Parse answers. -/
def PsP (w : World) (b : List Nat) (e : Ending) (w' : World) : Prop := e = .returned (.tuple #[(Rq.psx b).val, .int .i64 (Rq.pse b)]) ∧ Below w.heap.size w w'
theorem psp_bad {w w' : World} {b : List Nat} {er : Int} (h : Rq.pse b = er) (h0 : er ≠ 0) (hb : Below w.heap.size w w') : PsP w b (.returned (.tuple #[.agg #[.int .u8 0, .int .u32 0, .int .u8 0, .int .u16 0, .int .u64 0, .int .u64 0, .int .u8 0, .string ⟨#[]⟩, .string ⟨#[]⟩, .int .i64 0, .int .i64 0], .int .i64 er])) w' := by
  have e1 : Rq.psx b = Rq.only 0 0 := if_neg (by rw [h]; exact h0)
  unfold PsP
  rw [e1, h]
  exact ⟨rfl, hb⟩
theorem psp_good {w w' : World} {b : List Nat} {v : Value} (h : Rq.pse b = 0) (hv : (Rq.fin b).x.val = v) (hb : Below w.heap.size w w') : PsP w b (.returned (.tuple #[v, .int .i64 0])) w' := by
  have e1 : Rq.psx b = (Rq.fin b).x := if_pos h
  unfold PsP
  rw [e1, h, hv]
  exact ⟨rfl, hb⟩
theorem below_11 {w W : World} {g : Nat} (h : Below w.heap.size w W) (hg : w.heap.size ≤ g) (v0 v1 v2 v3 v4 v5 v6 v7 v8 v9 v10 : Value) : Below w.heap.size w (((((((((((W.setCell ⟨g, 0, none⟩ v0).setCell ⟨g, 1, none⟩ v1).setCell ⟨g, 2, none⟩ v2).setCell ⟨g, 3, none⟩ v3).setCell ⟨g, 4, none⟩ v4).setCell ⟨g, 5, none⟩ v5).setCell ⟨g, 6, none⟩ v6).setCell ⟨g, 7, none⟩ v7).setCell ⟨g, 8, none⟩ v8).setCell ⟨g, 9, none⟩ v9).setCell ⟨g, 10, none⟩ v10) :=
  ((((((((((h.setCell hg v0).setCell hg v1).setCell hg v2).setCell hg v3).setCell hg v4).setCell hg v5).setCell hg v6).setCell hg v7).setCell hg v8).setCell hg v9).setCell hg v10
set_option maxRecDepth 100000 in
set_option maxHeartbeats 8000000 in
theorem pParse9_any (n c B : Nat) (A : Option Addr) (b : List Nat) (w : World) (hV : Vars w) (hb : Bytes w B A n b) (hB : B ≤ w.heap.size) (hn : n ≤ 1000000) : Calls Tryd.prog 19 #[.slice A n c] w (PsP w b) := by
  obtain ⟨W1, hW1⟩ : ∃ W, w.alloc (.cells #[.int .u8 0, .int .u32 0, .int .u8 0, .int .u16 0, .int .u64 0, .int .u64 0, .int .u8 0, .string ⟨#[]⟩, .string ⟨#[]⟩, .int .i64 0, .int .i64 0] 26) = W := ⟨_, rfl⟩
  have B1 : Below w.heap.size w W1 := by
    rw [← hW1]
    exact (Below.refl _ _).alloc (Nat.le_refl _) _
  have K1 : Blk W1 w.heap.size 26 #[.int .u8 0, .int .u32 0, .int .u8 0, .int .u16 0, .int .u64 0, .int .u64 0, .int .u8 0, .string ⟨#[]⟩, .string ⟨#[]⟩, .int .i64 0, .int .i64 0] := by
    rw [← hW1]
    exact Blk.new w _ _
  have hz1 : w.heap.size < W1.heap.size := K1.lt
  have hlen := hb.1
  have HVV : Hid (∀ W, Below W1.heap.size W1 W → Vars W) := Lib.hid fun W hW => (hV.next B1).next hW
  have COf : Hid (Calls Tryd.prog 38 #[.slice A n c] W1 (OfPost W1 b)) := Lib.hid (of_any n c B A b W1 (hb.below B1 hB) (Nat.le_trans hB B1.size) hn)
  obtain ⟨hok, -⟩ := Rq.fin_ok hb.2.1
  have hk256 : (Rq.s0 b).x.k < 256 := (Rq.s0_ok hb.2.1).1.1
  have HB := Lib.hid (And.intro B1 K1)
  clear hV
  by_cases h0 : 0 < n
  rotate_left
  · obtain rfl : n = 0 := by omega
    have htag : Rq.tag b = false := by
      obtain rfl : b = [] := List.eq_nil_of_length_eq_zero hlen
      rfl
    have hpse : Rq.pse b = (Rq.fin b).err := if_neg (by rw [htag]; decide)
    clear h0 hb hB htag hn B1 K1
    go_enter Tryd.func19, Tryd.ntmps19
    go_wp2_with fail
    clear hW1
    refine COf.out.mono ?_
    rintro e w3 ⟨g, rfl, hrd, hgl, b3⟩
    have T3 : Tk W1 w3 g (b, false) := ⟨hrd, b3, hgl⟩
    have H3 := Lib.hid T3
    clear hrd hgl b3 T3 COf
    go_wp2_with fail
    refine (tk_u8 H3.out).mono ?_
    rintro e w4 ⟨rfl, k4, t4⟩
    obtain ⟨k, hk⟩ : ∃ k, Rq.vl (b, false) 1 = k := ⟨_, rfl⟩
    rw [hk]
    have b4 : Below w4.heap.size w4 (w4.alloc (.cells #[.int .u8 (k : Int), .int .u32 0, .int .u8 0, .int .u16 0, .int .u64 0, .int .u64 0, .int .u8 0, .string ⟨#[]⟩, .string ⟨#[]⟩, .int .i64 0, .int .i64 0] 26)) := (Below.refl _ _).alloc (Nat.le_refl _) _
    have H4 := Lib.hid (And.intro (k4.below b4) (Blk.new w4 26 #[.int .u8 (k : Int), .int .u32 0, .int .u8 0, .int .u16 0, .int .u64 0, .int .u64 0, .int .u8 0, .string ⟨#[]⟩, .string ⟨#[]⟩, .int .i64 0, .int .i64 0]))
    have hgR : g < w4.heap.size := k4.1.here
    clear k4 t4 b4
    go_wp2_with fail
    refine (tk_u32 H4.out.1).mono ?_
    rintro e w5 ⟨rfl, k5, t5⟩
    obtain ⟨id, hid⟩ : ∃ k, Rq.vl (Rq.nx (b, false) 1) 4 = k := ⟨_, rfl⟩
    rw [hid]
    have K5 : Blk w5 w4.heap.size 26 #[.int .u8 (k : Int), .int .u32 0, .int .u8 0, .int .u16 0, .int .u64 0, .int .u64 0, .int .u8 0, .string ⟨#[]⟩, .string ⟨#[]⟩, .int .i64 0, .int .i64 0] := (t5.block _ H4.out.2.lt (fun e => by injection e with e; omega)).trans H4.out.2
    have l5 : w5.cell? ⟨w4.heap.size, 1, none⟩ = some (.int .u32 0) := K5.cell 1
    have f5 := K5.frozen 1
    have es0 : Rq.s0 b = ⟨Rq.only k id, Rq.nx (Rq.nx (b, false) 1) 4⟩ := by
      unfold Rq.s0
      rw [hk, hid]
    have T6 : TkB W1 (w5.setCell ⟨w4.heap.size, 1, none⟩ (.int .u32 (id : Int))) g w4.heap.size (Rq.s0 b).s (Rq.s0 b).x.cells := by
      rw [es0]
      exact ⟨k5.put hgR (grown_set 1 _), K5.set_ 1 (.int .u32 (id : Int)), hgR⟩
    have H6 := Lib.hid (take_visit W1 _ g w4.heap.size (Rq.s0 b).x.k (Rq.s0 b) T6 (HVV.out _ T6.1.2.1) rfl hk256)
    clear k5 t5 K5 es0 T6
    go_wp2_with fail
    clear l5 f5
    refine H6.out.mono ?_
    rintro e w6 ⟨rfl, hfin⟩
    have hfin : TkB W1 w6 g w4.heap.size (Rq.fin b).s (Rq.fin b).x.cells := hfin
    obtain ⟨ht6, hbR, -⟩ := hfin
    have hP0 := HB.out.2.below ht6.2.1 hz1
    have hb6 : Below w.heap.size w w6 := below_next HB.out.1 ht6.2.1
    have CD := Lib.hid (done_any _ g _ _ w6 ht6.1)
    have CRt : Hid (∀ W, Below w6.heap.size w6 W → Calls Tryd.prog 14 #[(Rq.fin b).x.val] W fun e w' => e = .returned (.bool (Rq.fin b).x.right) ∧ Below W.heap.size W w') := Lib.hid fun W hW => pRight9_any _ W (HVV.out W (below_next ht6.2.1 hW)) hok.1
    obtain ⟨dn, hdn⟩ : ∃ dn, doneOf (Rq.fin b).s.2 (Rq.fin b).s.1.length = dn := ⟨_, rfl⟩
    rw [hdn] at CD
    have herr : Rq.pse b = if dn = 0 then (if (Rq.fin b).x.right then 0 else 81) else dn := by
      rw [hpse]
      unfold Rq.Sg.err Rq.Sg.done
      rw [hdn]
    have HE := Lib.hid herr
    have HH := Lib.hid (And.intro hbR (And.intro hb6 hP0))
    clear hpse herr hdn H6 H3 H4 hk hid
    have p0 := hP0.cell 0
    have q0 := hP0.frozen 0
    have p1 := hP0.cell 1
    have q1 := hP0.frozen 1
    have p2 := hP0.cell 2
    have q2 := hP0.frozen 2
    have p3 := hP0.cell 3
    have q3 := hP0.frozen 3
    have p4 := hP0.cell 4
    have q4 := hP0.frozen 4
    have p5 := hP0.cell 5
    have q5 := hP0.frozen 5
    have p6 := hP0.cell 6
    have q6 := hP0.frozen 6
    have p7 := hP0.cell 7
    have q7 := hP0.frozen 7
    have p8 := hP0.cell 8
    have q8 := hP0.frozen 8
    have p9 := hP0.cell 9
    have q9 := hP0.frozen 9
    have p10 := hP0.cell 10
    have q10 := hP0.frozen 10
    have PG : Hid (∀ w', Rq.pse b = 0 → Below w.heap.size w w' → PsP w b (.returned (.tuple #[(Rq.fin b).x.val, .int .i64 0])) w') := Lib.hid fun w' h hb => psp_good h rfl hb
    obtain ⟨σ, hσ⟩ : ∃ σ, Rq.fin b = σ := ⟨_, rfl⟩
    rw [hσ] at HE HH CRt PG
    clear hok hbR hb6 hP0 hσ ht6
    obtain ⟨⟨xk, xid, xpg, xdu, xat, xle, xso, xky, xto, xlo, xhi⟩, ss⟩ := σ
    dsimp only at HE HH CRt PG
    obtain ⟨rt, hrt⟩ : ∃ r, Rq.V.right ⟨xk, xid, xpg, xdu, xat, xle, xso, xky, xto, xlo, xhi⟩ = r := ⟨_, rfl⟩
    rw [hrt] at HE CRt
    clear hrt
    obtain ⟨rc0, rc1, rc2, rc3, rc4, rc5, rc6, rc7, rc8, rc9, rc10⟩ := (req_cells (x := ⟨xk, xid, xpg, xdu, xat, xle, xso, xky, xto, xlo, xhi⟩) HH.out.1).1
    unfold Rq.V.val at CRt PG
    unfold Rq.V.cells at CRt PG HH
    dsimp only at HH CRt PG rc0 rc1 rc2 rc3 rc4 rc5 rc6 rc7 rc8 rc9 rc10
    go_wp2_with fail
    refine CD.out.mono ?_
    rintro e w7 ⟨rfl, rfl⟩
    by_cases hd0 : dn = 0
    rotate_left
    · have i7 : (dn == 0) = false := by rw [beq_eq_false_iff_ne]; exact hd0
      have i8 : (dn != 0) = true := by rw [bne_iff_ne]; exact hd0
      have HP := Lib.hid (show Rq.pse b = dn by rw [HE.out, if_neg hd0])
      have HD := Lib.hid hd0
      go_wp2_with fail
      refine bodyPost_ret (v := .tuple #[.agg #[.int .u8 0, .int .u32 0, .int .u8 0, .int .u16 0, .int .u64 0, .int .u64 0, .int .u8 0, .string ⟨#[]⟩, .string ⟨#[]⟩, .int .i64 0, .int .i64 0], .int .i64 dn]) ?_ rfl (psp_bad HP.out HD.out (below_11 HH.out.2.1 (Nat.le_refl _) _ _ _ _ _ _ _ _ _ _ _))
      simp [results, Tryd.results19, go_sem, p0, p1, p2, p3, p4, p5, p6, p7, p8, p9, p10]
    subst hd0
    go_wp2_with fail
    refine (CRt.out _ (Below.refl _ _)).mono ?_
    rintro e w8 ⟨rfl, b8⟩
    have hP8 := HH.out.2.2.below b8 HH.out.2.2.lt
    have hR8 := HH.out.1.below b8 HH.out.1.lt
    have H8 := Lib.hid (below_next HH.out.2.1 b8)
    clear p0 p1 p2 p3 p4 p5 p6 p7 p8 p9 p10 q0 q1 q2 q3 q4 q5 q6 q7 q8 q9 q10 rc0 rc1 rc2 rc3 rc4 rc5 rc6 rc7 rc8 rc9 rc10
    have p0 := hP8.cell 0
    have q0 := hP8.frozen 0
    have p1 := hP8.cell 1
    have q1 := hP8.frozen 1
    have p2 := hP8.cell 2
    have q2 := hP8.frozen 2
    have p3 := hP8.cell 3
    have q3 := hP8.frozen 3
    have p4 := hP8.cell 4
    have q4 := hP8.frozen 4
    have p5 := hP8.cell 5
    have q5 := hP8.frozen 5
    have p6 := hP8.cell 6
    have q6 := hP8.frozen 6
    have p7 := hP8.cell 7
    have q7 := hP8.frozen 7
    have p8 := hP8.cell 8
    have q8 := hP8.frozen 8
    have p9 := hP8.cell 9
    have q9 := hP8.frozen 9
    have p10 := hP8.cell 10
    have q10 := hP8.frozen 10
    obtain ⟨rc0, rc1, rc2, rc3, rc4, rc5, rc6, rc7, rc8, rc9, rc10⟩ := (req_cells (x := ⟨xk, xid, xpg, xdu, xat, xle, xso, xky, xto, xlo, xhi⟩) hR8).1
    dsimp only at rc0 rc1 rc2 rc3 rc4 rc5 rc6 rc7 rc8 rc9 rc10
    clear hP8 hR8 b8
    cases rt
    · have HP := Lib.hid (show Rq.pse b = 81 by rw [HE.out]; rfl)
      go_wp2_with fail
      refine bodyPost_ret (v := .tuple #[.agg #[.int .u8 0, .int .u32 0, .int .u8 0, .int .u16 0, .int .u64 0, .int .u64 0, .int .u8 0, .string ⟨#[]⟩, .string ⟨#[]⟩, .int .i64 0, .int .i64 0], .int .i64 81]) ?_ rfl (psp_bad HP.out (by decide) (below_11 H8.out (Nat.le_refl _) _ _ _ _ _ _ _ _ _ _ _))
      simp [results, Tryd.results19, go_sem, p0, p1, p2, p3, p4, p5, p6, p7, p8, p9, p10]
    · have HP := Lib.hid (show Rq.pse b = 0 by rw [HE.out]; rfl)
      go_wp2_with fail
      refine bodyPost_ret (v := .tuple #[.agg #[.int .u8 (xk : Int), .int .u32 (xid : Int), .int .u8 (xpg : Int), .int .u16 (xdu : Int), .int .u64 (xat : Int), .int .u64 (xle : Int), .int .u8 (xso : Int), .string xky, .string xto, .int .i64 xlo, .int .i64 xhi], .int .i64 0]) ?_ rfl (PG.out _ HP.out (below_11 H8.out (Nat.le_refl _) _ _ _ _ _ _ _ _ _ _ _))
      simp [results, Tryd.results19, go_sem, p0, p1, p2, p3, p4, p5, p6, p7, p8, p9, p10]
  · obtain ⟨bb, off, rfl, hbb, hc⟩ := hb.2.2 h0
    have hc0 := hc 0 h0
    rw [Nat.add_zero] at hc0
    obtain ⟨y, hy⟩ : ∃ y, b.getD 0 0 = y := ⟨_, rfl⟩
    have hy256 := hb.lt 0
    rw [hy] at hc0 hy256
    have d0 : W1.cell? ⟨bb, off, none⟩ = some (.int .u8 (y : Int)) := (B1.cell (p := ⟨bb, off, none⟩) (by show bb < w.heap.size; omega)).trans hc0
    have i1 : (0 : Int) < n := by omega
    have htag : Rq.tag b = !Rq.isK y := by
      cases b with
      | nil => simp at hlen; omega
      | cons z l =>
        have : z = y := by simpa using hy
        subst this
        rfl
    have CK := Lib.hid (isKind_any y W1 hy256)
    cases hK : Rq.isK y
    · have hpse : Rq.pse b = 80 := if_pos (by rw [htag, hK]; rfl)
      rw [hK] at CK
      clear hb hB hn h0 hc hc0 hy hy256 hlen hok hk256 B1 htag hK
      have p0 := K1.cell 0
      have q0 := K1.frozen 0
      have p1 := K1.cell 1
      have q1 := K1.frozen 1
      have p2 := K1.cell 2
      have q2 := K1.frozen 2
      have p3 := K1.cell 3
      have q3 := K1.frozen 3
      have p4 := K1.cell 4
      have q4 := K1.frozen 4
      have p5 := K1.cell 5
      have q5 := K1.frozen 5
      have p6 := K1.cell 6
      have q6 := K1.frozen 6
      have p7 := K1.cell 7
      have q7 := K1.frozen 7
      have p8 := K1.cell 8
      have q8 := K1.frozen 8
      have p9 := K1.cell 9
      have q9 := K1.frozen 9
      have p10 := K1.cell 10
      have q10 := K1.frozen 10
      have HP := Lib.hid hpse
      clear K1 hpse
      go_enter Tryd.func19, Tryd.ntmps19
      go_wp2_with fail
      clear hW1
      refine CK.out.mono ?_
      rintro e w2 ⟨rfl, rfl⟩
      go_wp2_with fail
      refine bodyPost_ret (v := .tuple #[.agg #[.int .u8 0, .int .u32 0, .int .u8 0, .int .u16 0, .int .u64 0, .int .u64 0, .int .u8 0, .string ⟨#[]⟩, .string ⟨#[]⟩, .int .i64 0, .int .i64 0], .int .i64 80]) ?_ rfl (psp_bad HP.out (by decide) (below_11 HB.out.1 (Nat.le_refl _) _ _ _ _ _ _ _ _ _ _ _))
      simp [results, Tryd.results19, go_sem, p0, p1, p2, p3, p4, p5, p6, p7, p8, p9, p10]
    · have hpse : Rq.pse b = (Rq.fin b).err := if_neg (by rw [htag, hK]; decide)
      rw [hK] at CK
      clear hb hB hn h0 hc hc0 hy hy256 B1 K1 htag hK
      go_enter Tryd.func19, Tryd.ntmps19
      go_wp2_with fail
      clear hW1
      refine CK.out.mono ?_
      rintro e w2 ⟨rfl, rfl⟩
      go_wp2_with fail
      clear d0 i1
      refine COf.out.mono ?_
      rintro e w3 ⟨g, rfl, hrd, hgl, b3⟩
      have T3 : Tk W1 w3 g (b, false) := ⟨hrd, b3, hgl⟩
      have H3 := Lib.hid T3
      clear hrd hgl b3 T3 COf
      go_wp2_with fail
      refine (tk_u8 H3.out).mono ?_
      rintro e w4 ⟨rfl, k4, t4⟩
      obtain ⟨k, hk⟩ : ∃ k, Rq.vl (b, false) 1 = k := ⟨_, rfl⟩
      rw [hk]
      have b4 : Below w4.heap.size w4 (w4.alloc (.cells #[.int .u8 (k : Int), .int .u32 0, .int .u8 0, .int .u16 0, .int .u64 0, .int .u64 0, .int .u8 0, .string ⟨#[]⟩, .string ⟨#[]⟩, .int .i64 0, .int .i64 0] 26)) := (Below.refl _ _).alloc (Nat.le_refl _) _
      have H4 := Lib.hid (And.intro (k4.below b4) (Blk.new w4 26 #[.int .u8 (k : Int), .int .u32 0, .int .u8 0, .int .u16 0, .int .u64 0, .int .u64 0, .int .u8 0, .string ⟨#[]⟩, .string ⟨#[]⟩, .int .i64 0, .int .i64 0]))
      have hgR : g < w4.heap.size := k4.1.here
      clear k4 t4 b4
      go_wp2_with fail
      refine (tk_u32 H4.out.1).mono ?_
      rintro e w5 ⟨rfl, k5, t5⟩
      obtain ⟨id, hid⟩ : ∃ k, Rq.vl (Rq.nx (b, false) 1) 4 = k := ⟨_, rfl⟩
      rw [hid]
      have K5 : Blk w5 w4.heap.size 26 #[.int .u8 (k : Int), .int .u32 0, .int .u8 0, .int .u16 0, .int .u64 0, .int .u64 0, .int .u8 0, .string ⟨#[]⟩, .string ⟨#[]⟩, .int .i64 0, .int .i64 0] := (t5.block _ H4.out.2.lt (fun e => by injection e with e; omega)).trans H4.out.2
      have l5 : w5.cell? ⟨w4.heap.size, 1, none⟩ = some (.int .u32 0) := K5.cell 1
      have f5 := K5.frozen 1
      have es0 : Rq.s0 b = ⟨Rq.only k id, Rq.nx (Rq.nx (b, false) 1) 4⟩ := by
        unfold Rq.s0
        rw [hk, hid]
      have T6 : TkB W1 (w5.setCell ⟨w4.heap.size, 1, none⟩ (.int .u32 (id : Int))) g w4.heap.size (Rq.s0 b).s (Rq.s0 b).x.cells := by
        rw [es0]
        exact ⟨k5.put hgR (grown_set 1 _), K5.set_ 1 (.int .u32 (id : Int)), hgR⟩
      have H6 := Lib.hid (take_visit W1 _ g w4.heap.size (Rq.s0 b).x.k (Rq.s0 b) T6 (HVV.out _ T6.1.2.1) rfl hk256)
      clear k5 t5 K5 es0 T6
      go_wp2_with fail
      clear l5 f5
      refine H6.out.mono ?_
      rintro e w6 ⟨rfl, hfin⟩
      have hfin : TkB W1 w6 g w4.heap.size (Rq.fin b).s (Rq.fin b).x.cells := hfin
      obtain ⟨ht6, hbR, -⟩ := hfin
      have hP0 := HB.out.2.below ht6.2.1 hz1
      have hb6 : Below w.heap.size w w6 := below_next HB.out.1 ht6.2.1
      have CD := Lib.hid (done_any _ g _ _ w6 ht6.1)
      have CRt : Hid (∀ W, Below w6.heap.size w6 W → Calls Tryd.prog 14 #[(Rq.fin b).x.val] W fun e w' => e = .returned (.bool (Rq.fin b).x.right) ∧ Below W.heap.size W w') := Lib.hid fun W hW => pRight9_any _ W (HVV.out W (below_next ht6.2.1 hW)) hok.1
      obtain ⟨dn, hdn⟩ : ∃ dn, doneOf (Rq.fin b).s.2 (Rq.fin b).s.1.length = dn := ⟨_, rfl⟩
      rw [hdn] at CD
      have herr : Rq.pse b = if dn = 0 then (if (Rq.fin b).x.right then 0 else 81) else dn := by
        rw [hpse]
        unfold Rq.Sg.err Rq.Sg.done
        rw [hdn]
      have HE := Lib.hid herr
      have HH := Lib.hid (And.intro hbR (And.intro hb6 hP0))
      clear hpse herr hdn H6 H3 H4 hk hid
      have p0 := hP0.cell 0
      have q0 := hP0.frozen 0
      have p1 := hP0.cell 1
      have q1 := hP0.frozen 1
      have p2 := hP0.cell 2
      have q2 := hP0.frozen 2
      have p3 := hP0.cell 3
      have q3 := hP0.frozen 3
      have p4 := hP0.cell 4
      have q4 := hP0.frozen 4
      have p5 := hP0.cell 5
      have q5 := hP0.frozen 5
      have p6 := hP0.cell 6
      have q6 := hP0.frozen 6
      have p7 := hP0.cell 7
      have q7 := hP0.frozen 7
      have p8 := hP0.cell 8
      have q8 := hP0.frozen 8
      have p9 := hP0.cell 9
      have q9 := hP0.frozen 9
      have p10 := hP0.cell 10
      have q10 := hP0.frozen 10
      have PG : Hid (∀ w', Rq.pse b = 0 → Below w.heap.size w w' → PsP w b (.returned (.tuple #[(Rq.fin b).x.val, .int .i64 0])) w') := Lib.hid fun w' h hb => psp_good h rfl hb
      obtain ⟨σ, hσ⟩ : ∃ σ, Rq.fin b = σ := ⟨_, rfl⟩
      rw [hσ] at HE HH CRt PG
      clear hok hbR hb6 hP0 hσ ht6
      obtain ⟨⟨xk, xid, xpg, xdu, xat, xle, xso, xky, xto, xlo, xhi⟩, ss⟩ := σ
      dsimp only at HE HH CRt PG
      obtain ⟨rt, hrt⟩ : ∃ r, Rq.V.right ⟨xk, xid, xpg, xdu, xat, xle, xso, xky, xto, xlo, xhi⟩ = r := ⟨_, rfl⟩
      rw [hrt] at HE CRt
      clear hrt
      obtain ⟨rc0, rc1, rc2, rc3, rc4, rc5, rc6, rc7, rc8, rc9, rc10⟩ := (req_cells (x := ⟨xk, xid, xpg, xdu, xat, xle, xso, xky, xto, xlo, xhi⟩) HH.out.1).1
      unfold Rq.V.val at CRt PG
      unfold Rq.V.cells at CRt PG HH
      dsimp only at HH CRt PG rc0 rc1 rc2 rc3 rc4 rc5 rc6 rc7 rc8 rc9 rc10
      go_wp2_with fail
      refine CD.out.mono ?_
      rintro e w7 ⟨rfl, rfl⟩
      by_cases hd0 : dn = 0
      rotate_left
      · have i7 : (dn == 0) = false := by rw [beq_eq_false_iff_ne]; exact hd0
        have i8 : (dn != 0) = true := by rw [bne_iff_ne]; exact hd0
        have HP := Lib.hid (show Rq.pse b = dn by rw [HE.out, if_neg hd0])
        have HD := Lib.hid hd0
        go_wp2_with fail
        refine bodyPost_ret (v := .tuple #[.agg #[.int .u8 0, .int .u32 0, .int .u8 0, .int .u16 0, .int .u64 0, .int .u64 0, .int .u8 0, .string ⟨#[]⟩, .string ⟨#[]⟩, .int .i64 0, .int .i64 0], .int .i64 dn]) ?_ rfl (psp_bad HP.out HD.out (below_11 HH.out.2.1 (Nat.le_refl _) _ _ _ _ _ _ _ _ _ _ _))
        simp [results, Tryd.results19, go_sem, p0, p1, p2, p3, p4, p5, p6, p7, p8, p9, p10]
      subst hd0
      go_wp2_with fail
      refine (CRt.out _ (Below.refl _ _)).mono ?_
      rintro e w8 ⟨rfl, b8⟩
      have hP8 := HH.out.2.2.below b8 HH.out.2.2.lt
      have hR8 := HH.out.1.below b8 HH.out.1.lt
      have H8 := Lib.hid (below_next HH.out.2.1 b8)
      clear p0 p1 p2 p3 p4 p5 p6 p7 p8 p9 p10 q0 q1 q2 q3 q4 q5 q6 q7 q8 q9 q10 rc0 rc1 rc2 rc3 rc4 rc5 rc6 rc7 rc8 rc9 rc10
      have p0 := hP8.cell 0
      have q0 := hP8.frozen 0
      have p1 := hP8.cell 1
      have q1 := hP8.frozen 1
      have p2 := hP8.cell 2
      have q2 := hP8.frozen 2
      have p3 := hP8.cell 3
      have q3 := hP8.frozen 3
      have p4 := hP8.cell 4
      have q4 := hP8.frozen 4
      have p5 := hP8.cell 5
      have q5 := hP8.frozen 5
      have p6 := hP8.cell 6
      have q6 := hP8.frozen 6
      have p7 := hP8.cell 7
      have q7 := hP8.frozen 7
      have p8 := hP8.cell 8
      have q8 := hP8.frozen 8
      have p9 := hP8.cell 9
      have q9 := hP8.frozen 9
      have p10 := hP8.cell 10
      have q10 := hP8.frozen 10
      obtain ⟨rc0, rc1, rc2, rc3, rc4, rc5, rc6, rc7, rc8, rc9, rc10⟩ := (req_cells (x := ⟨xk, xid, xpg, xdu, xat, xle, xso, xky, xto, xlo, xhi⟩) hR8).1
      dsimp only at rc0 rc1 rc2 rc3 rc4 rc5 rc6 rc7 rc8 rc9 rc10
      clear hP8 hR8 b8
      cases rt
      · have HP := Lib.hid (show Rq.pse b = 81 by rw [HE.out]; rfl)
        go_wp2_with fail
        refine bodyPost_ret (v := .tuple #[.agg #[.int .u8 0, .int .u32 0, .int .u8 0, .int .u16 0, .int .u64 0, .int .u64 0, .int .u8 0, .string ⟨#[]⟩, .string ⟨#[]⟩, .int .i64 0, .int .i64 0], .int .i64 81]) ?_ rfl (psp_bad HP.out (by decide) (below_11 H8.out (Nat.le_refl _) _ _ _ _ _ _ _ _ _ _ _))
        simp [results, Tryd.results19, go_sem, p0, p1, p2, p3, p4, p5, p6, p7, p8, p9, p10]
      · have HP := Lib.hid (show Rq.pse b = 0 by rw [HE.out]; rfl)
        go_wp2_with fail
        refine bodyPost_ret (v := .tuple #[.agg #[.int .u8 (xk : Int), .int .u32 (xid : Int), .int .u8 (xpg : Int), .int .u16 (xdu : Int), .int .u64 (xat : Int), .int .u64 (xle : Int), .int .u8 (xso : Int), .string xky, .string xto, .int .i64 xlo, .int .i64 xhi], .int .i64 0]) ?_ rfl (PG.out _ HP.out (below_11 H8.out (Nat.le_refl _) _ _ _ _ _ _ _ _ _ _ _))
        simp [results, Tryd.results19, go_sem, p0, p1, p2, p3, p4, p5, p6, p7, p8, p9, p10]
set_option maxRecDepth 100000 in
set_option maxHeartbeats 2000000 in
theorem pId_any (n c B : Nat) (A : Option Addr) (b : List Nat) (w : World) (hb : Bytes w B A n b) (hB : B ≤ w.heap.size) (hn : n ≤ 1000000) (hnc : n ≤ c) : Calls Tryd.prog 21 #[.slice A n c] w fun e w' => e = .returned (.int .u32 ((Rq.idOf b : Nat) : Int)) ∧ Below w.heap.size w w' := by
  obtain ⟨i0, hi, hz0, hz1, hz2⟩ := info_parts Tryd.info5
  by_cases h5 : n < 5
  · have e1 : Rq.idOf b = 0 := if_pos (by rw [hb.1]; exact h5)
    rw [e1]
    have i1 : (n : Int) < 5 := by omega
    clear hb hi hz0 hz1 hz2
    go_enter Tryd.func21, Tryd.ntmps21
    go_wp2_with fail
    go_ret
    exact ⟨rfl, Below.refl _ _⟩
  · have e1 : Rq.idOf b = Pk.num ((b.drop 1).take 4) := if_neg (by rw [hb.1]; exact h5)
    have i1 : ¬ (n : Int) < 5 := by omega
    have hcut := cut_lh (P := Tryd.prog) 29 5 i0 Tryd.underlying29 hi hz1 A n c 1 5 1 5 rfl rfl (by omega) (by omega)
    have hby := (hb.cut (i := 1) (by omega) hnc).head (j := 4) (by omega)
    have hb4 : (b.drop 1).length = n - 1 := by rw [List.length_drop, hb.1]
    obtain ⟨A2, hA2⟩ : ∃ A2, (if c = 1 then A else A.map (·.add 1)) = A2 := ⟨_, rfl⟩
    rw [hA2] at hby hcut
    have HC := Lib.hid (of_any 4 (c - 1) B A2 _ w hby hB (by omega))
    obtain ⟨l, hl⟩ : ∃ l, (b.drop 1).take 4 = l := ⟨_, rfl⟩
    have hl4 : l.length = 4 := by rw [← hl, List.length_take, hb4]; omega
    rw [hl] at HC e1
    rw [e1]
    have HL := Lib.hid hl4
    clear hb hi hz0 hz1 hz2 hby hb4 hA2 hl hl4 e1
    go_enter Tryd.func21, Tryd.ntmps21
    go_wp2_with fail
    refine HC.out.mono ?_
    rintro e w1 ⟨g, rfl, hrd, hgl, b1⟩
    have T1 : Tk w w1 g (l, false) := ⟨hrd, b1, hgl⟩
    have H1 := Lib.hid T1
    clear hrd hgl b1 T1
    go_wp2_with fail
    refine (tk_u32 H1.out).mono ?_
    rintro e w2 ⟨rfl, k2, -⟩
    have H2 := Lib.hid k2.2.1
    clear k2
    have ev : Rq.vl (l, false) 4 = Pk.num l := by
      unfold Rq.vl
      dsimp only
      rw [Pk.taken_no (Pk.fails_no (by rw [HL.out]; exact Nat.le_refl _)), List.take_of_length_le (by rw [HL.out]; exact Nat.le_refl _)]
    rw [ev]
    clear ev
    go_wp2_with fail
    go_ret
    exact ⟨rfl, H2.out⟩
end Go.Proofs.YtgailpljcobabaaDoor
