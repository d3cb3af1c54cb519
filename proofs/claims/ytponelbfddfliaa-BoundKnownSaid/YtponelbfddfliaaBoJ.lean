/- Layer 10: the pane of a row, and a filter's row of a pane (the reference's). Made by tools/gen/boj.py. -/
import Derived.Test.YtponelbfddfliaaBoH
import Derived.Test.YtponelbfddfliaaKeyO
import Derived.Test.YtponelbfddfliaaBoO
namespace Go.Proofs.Ytponelbfddfliaa
open Go.ChangeShapes Go.WideShapes Go.ChangeAt Go.RowKit

/-- The pane of a row, if it is one. -/
def paneOf (sec : Bool) (o : Option (List Ky.Part)) (ok : Bool) (p : Pn) : Prop := match o with
  | none => ok = false ∧ p = ⟨⟨#[]⟩, 0, 0⟩
  | some l => ok = true ∧ ∃ x y z : PT, l = tos [x, y, z] ∧ p = (if sec then ⟨y.s, z.n, x.n⟩ else ⟨x.s, z.n, y.n⟩)
def kindsOf (sec : Bool) : List Nat := if sec then [1, 2, 1] else [2, 1, 1]
def PaneP (w : World) (sec : Bool) (s : ByteArray) (e : Ending) (w' : World) : Prop := ∃ (ok : Bool) (k : ByteArray) (st en : Int), e = .returned (.tuple #[.agg #[.string k, .int .i64 st, .int .i64 en], .bool ok]) ∧ paneOf sec (Ky.parse (nums s) (kindsOf sec)) ok ⟨k, st, en⟩ ∧ Below w.heap.size w w'
theorem paneOf_one {sec : Bool} {o : Option (List Ky.Part)} {ok ok' : Bool} {p p' : Pn} (h : paneOf sec o ok p) (h' : paneOf sec o ok' p') : ok = ok' ∧ p = p' := by
  cases o with
  | none => exact ⟨h.1.trans h'.1.symm, h.2.trans h'.2.symm⟩
  | some l =>
    obtain ⟨rfl, x, y, z, e, rfl⟩ := h
    obtain ⟨rfl, x', y', z', e', rfl⟩ := h'
    refine ⟨rfl, ?_⟩
    rw [e] at e'
    simp [tos, PT.to] at e'
    obtain ⟨⟨_, e1, e2⟩, ⟨_, e3, e4⟩, _, e5, _⟩ := e'
    cases sec
    · show Pn.mk _ _ _ = Pn.mk _ _ _
      rw [nums_inj e2, e3, e5]
    · show Pn.mk _ _ _ = Pn.mk _ _ _
      rw [nums_inj e4, e1, e5]
theorem of_pri {w w' : World} {s : ByteArray} {e : Ending} (h : OfP w (Ky.parse (nums s) [2, 1, 1]) e w') : PaneP w false s e w' := by
  unfold PaneP kindsOf
  rw [if_neg (by decide)]
  cases ho : Ky.parse (nums s) [2, 1, 1] with
  | none =>
    rw [ho] at h
    exact ⟨false, ⟨#[]⟩, 0, 0, h.1, ⟨rfl, rfl⟩, h.2⟩
  | some l =>
    rw [ho] at h
    obtain ⟨x, y, z, hl, he, hb⟩ := h
    exact ⟨true, x.s, z.n, y.n, he, ⟨rfl, x, y, z, hl, rfl⟩, hb⟩
theorem of_sec {w w' : World} {s : ByteArray} {e : Ending} (h : OfS w (Ky.parse (nums s) [1, 2, 1]) e w') : PaneP w true s e w' := by
  unfold PaneP kindsOf
  rw [if_pos (by decide)]
  cases ho : Ky.parse (nums s) [1, 2, 1] with
  | none =>
    rw [ho] at h
    exact ⟨false, ⟨#[]⟩, 0, 0, h.1, ⟨rfl, rfl⟩, h.2⟩
  | some l =>
    rw [ho] at h
    obtain ⟨x, y, z, hl, he, hb⟩ := h
    exact ⟨true, y.s, z.n, x.n, he, ⟨rfl, x, y, z, hl, rfl⟩, hb⟩
set_option maxRecDepth 100000 in
set_option maxHeartbeats 1000000 in
theorem pane_any (fk : Nat) (fK fT : ByteArray) (fl fm : Int) (s : ByteArray) (w : World) (hs : s.size ≤ 1000000) : Calls Try.prog 27 #[.agg #[.int .u8 (fk : Int), .string fK, .string fT, .int .i64 fl, .int .i64 fm], .string s] w (PaneP w (decide (fk = 3)) s) := by
  have S0 := ((Held.start w).new #[.int .u8 (fk : Int), .string fK, .string fT, .int .i64 fl, .int .i64 fm] 23).new #[.string ⟨#[]⟩, .int .i64 0, .int .i64 0] 33
  obtain ⟨w0, hw0⟩ : ∃ w0, (w.alloc (.cells #[.int .u8 (fk : Int), .string fK, .string fT, .int .i64 fl, .int .i64 fm] 23)).alloc (.cells #[.string ⟨#[]⟩, .int .i64 0, .int .i64 0] 33) = w0 := ⟨_, rfl⟩
  rw [hw0, show (w.alloc (.cells #[.int .u8 (fk : Int), .string fK, .string fT, .int .i64 fl, .int .i64 fm] 23)).heap.size = w.heap.size + 1 by simp] at S0
  have HS := Lib.hid S0
  have k0 := (S0.2 _ (List.mem_cons_of_mem _ (List.mem_cons_self ..)))
  have c0 : w0.cell? ⟨w.heap.size, 0, none⟩ = some (.int .u8 (fk : Int)) := k0.cell 0
  have c1 : w0.cell? ⟨w.heap.size, 1, none⟩ = some (.string fK) := k0.cell 1
  have c2 : w0.cell? ⟨w.heap.size, 2, none⟩ = some (.string fT) := k0.cell 2
  have c3 : w0.cell? ⟨w.heap.size, 3, none⟩ = some (.int .i64 fl) := k0.cell 3
  have c4 : w0.cell? ⟨w.heap.size, 4, none⟩ = some (.int .i64 fm) := k0.cell 4
  have HP := Lib.hid (fun W => (ofPrimary_any s W hs).mono fun e w' h => of_pri h)
  have HQ := Lib.hid (fun W => (ofSecondary_any s W hs).mono fun e w' h => of_sec h)
  have HSE := Lib.hid (fun W => sec_any ⟨fk, fK, fT, fl, fm⟩ W)
  unfold Fl.val Fl.sec at HSE
  dsimp only at HSE
  clear S0 k0 hs
  by_cases h : fk = 3
  · rw [decide_eq_true h]
    rw [decide_eq_true h] at HSE
    clear h
    go_enter Try.func27, Try.ntmps27
    go_wp2_with fail
    clear hw0 c0 c1 c2 c3 c4
    refine (HSE.out _).mono ?_
    rintro e w1 ⟨rfl, b1⟩
    have H1 := Lib.hid (HS.out.step b1)
    clear b1
    go_wp2_with fail
    refine (HQ.out _).mono ?_
    rintro e w2 ⟨ok, k, st, en, rfl, hp, b2⟩
    have H2 := Lib.hid (H1.out.step b2)
    have k1 := (H2.out.2 _ (List.mem_cons_self ..))
    have HH := Lib.hid hp
    have d0 : w2.cell? ⟨w.heap.size + 1, 0, none⟩ = some (.string ⟨#[]⟩) := k1.cell 0
    have d1 : w2.cell? ⟨w.heap.size + 1, 1, none⟩ = some (.int .i64 0) := k1.cell 1
    have d2 : w2.cell? ⟨w.heap.size + 1, 2, none⟩ = some (.int .i64 0) := k1.cell 2
    have hf := fun o => k1.frozen o
    have e0 : (((w2.setCell ⟨w.heap.size + 1, 0, none⟩ (.string k)).setCell ⟨w.heap.size + 1, 1, none⟩ (.int .i64 st)).setCell ⟨w.heap.size + 1, 2, none⟩ (.int .i64 en)).cell? ⟨w.heap.size + 1, 0, none⟩ = some (.string k) := (((k1.set_ 0 (.string k)).set_ 1 (.int .i64 st)).set_ 2 (.int .i64 en)).cell 0
    have e1 : (((w2.setCell ⟨w.heap.size + 1, 0, none⟩ (.string k)).setCell ⟨w.heap.size + 1, 1, none⟩ (.int .i64 st)).setCell ⟨w.heap.size + 1, 2, none⟩ (.int .i64 en)).cell? ⟨w.heap.size + 1, 1, none⟩ = some (.int .i64 st) := (((k1.set_ 0 (.string k)).set_ 1 (.int .i64 st)).set_ 2 (.int .i64 en)).cell 1
    have e2 : (((w2.setCell ⟨w.heap.size + 1, 0, none⟩ (.string k)).setCell ⟨w.heap.size + 1, 1, none⟩ (.int .i64 st)).setCell ⟨w.heap.size + 1, 2, none⟩ (.int .i64 en)).cell? ⟨w.heap.size + 1, 2, none⟩ = some (.int .i64 en) := (((k1.set_ 0 (.string k)).set_ 1 (.int .i64 st)).set_ 2 (.int .i64 en)).cell 2
    clear k1 hp
    go_wp2_with fail
    refine bodyPost_ret (v := .tuple #[.agg #[.string k, .int .i64 st, .int .i64 en], .bool ok]) ?_ rfl ?_
    · simp [results, Try.results27, go_sem, e0, e1, e2]
    · exact ⟨ok, k, st, en, rfl, HH.out, ((H2.out.1.setCell (by simp) _).setCell (by simp) _).setCell (by simp) _⟩
  · rw [decide_eq_false h]
    rw [decide_eq_false h] at HSE
    clear h
    go_enter Try.func27, Try.ntmps27
    go_wp2_with fail
    clear hw0 c0 c1 c2 c3 c4
    refine (HSE.out _).mono ?_
    rintro e w1 ⟨rfl, b1⟩
    have H1 := Lib.hid (HS.out.step b1)
    clear b1
    go_wp2_with fail
    refine (HP.out _).mono ?_
    rintro e w2 ⟨ok, k, st, en, rfl, hp, b2⟩
    have H2 := Lib.hid (H1.out.step b2)
    have k1 := (H2.out.2 _ (List.mem_cons_self ..))
    have HH := Lib.hid hp
    have d0 : w2.cell? ⟨w.heap.size + 1, 0, none⟩ = some (.string ⟨#[]⟩) := k1.cell 0
    have d1 : w2.cell? ⟨w.heap.size + 1, 1, none⟩ = some (.int .i64 0) := k1.cell 1
    have d2 : w2.cell? ⟨w.heap.size + 1, 2, none⟩ = some (.int .i64 0) := k1.cell 2
    have hf := fun o => k1.frozen o
    have e0 : (((w2.setCell ⟨w.heap.size + 1, 0, none⟩ (.string k)).setCell ⟨w.heap.size + 1, 1, none⟩ (.int .i64 st)).setCell ⟨w.heap.size + 1, 2, none⟩ (.int .i64 en)).cell? ⟨w.heap.size + 1, 0, none⟩ = some (.string k) := (((k1.set_ 0 (.string k)).set_ 1 (.int .i64 st)).set_ 2 (.int .i64 en)).cell 0
    have e1 : (((w2.setCell ⟨w.heap.size + 1, 0, none⟩ (.string k)).setCell ⟨w.heap.size + 1, 1, none⟩ (.int .i64 st)).setCell ⟨w.heap.size + 1, 2, none⟩ (.int .i64 en)).cell? ⟨w.heap.size + 1, 1, none⟩ = some (.int .i64 st) := (((k1.set_ 0 (.string k)).set_ 1 (.int .i64 st)).set_ 2 (.int .i64 en)).cell 1
    have e2 : (((w2.setCell ⟨w.heap.size + 1, 0, none⟩ (.string k)).setCell ⟨w.heap.size + 1, 1, none⟩ (.int .i64 st)).setCell ⟨w.heap.size + 1, 2, none⟩ (.int .i64 en)).cell? ⟨w.heap.size + 1, 2, none⟩ = some (.int .i64 en) := (((k1.set_ 0 (.string k)).set_ 1 (.int .i64 st)).set_ 2 (.int .i64 en)).cell 2
    clear k1 hp
    go_wp2_with fail
    refine bodyPost_ret (v := .tuple #[.agg #[.string k, .int .i64 st, .int .i64 en], .bool ok]) ?_ rfl ?_
    · simp [results, Try.results27, go_sem, e0, e1, e2]
    · exact ⟨ok, k, st, en, rfl, HH.out, ((H2.out.1.setCell (by simp) _).setCell (by simp) _).setCell (by simp) _⟩
set_option maxRecDepth 100000 in
set_option maxHeartbeats 1000000 in
theorem refPane_any (fk : Nat) (fK fT : ByteArray) (fl fm : Int) (s : ByteArray) (w : World) (hs : s.size ≤ 1000000) : Calls Try.prog 30 #[.agg #[.int .u8 (fk : Int), .string fK, .string fT, .int .i64 fl, .int .i64 fm], .string s] w (PaneP w (decide (fk = 3)) s) := by
  have S0 := ((Held.start w).new #[.int .u8 (fk : Int), .string fK, .string fT, .int .i64 fl, .int .i64 fm] 37).new #[.string ⟨#[]⟩, .int .i64 0, .int .i64 0] 34
  obtain ⟨w0, hw0⟩ : ∃ w0, (w.alloc (.cells #[.int .u8 (fk : Int), .string fK, .string fT, .int .i64 fl, .int .i64 fm] 37)).alloc (.cells #[.string ⟨#[]⟩, .int .i64 0, .int .i64 0] 34) = w0 := ⟨_, rfl⟩
  rw [hw0, show (w.alloc (.cells #[.int .u8 (fk : Int), .string fK, .string fT, .int .i64 fl, .int .i64 fm] 37)).heap.size = w.heap.size + 1 by simp] at S0
  have HS := Lib.hid S0
  have k0 := (S0.2 _ (List.mem_cons_of_mem _ (List.mem_cons_self ..)))
  have c0 : w0.cell? ⟨w.heap.size, 0, none⟩ = some (.int .u8 (fk : Int)) := k0.cell 0
  have c1 : w0.cell? ⟨w.heap.size, 1, none⟩ = some (.string fK) := k0.cell 1
  have c2 : w0.cell? ⟨w.heap.size, 2, none⟩ = some (.string fT) := k0.cell 2
  have c3 : w0.cell? ⟨w.heap.size, 3, none⟩ = some (.int .i64 fl) := k0.cell 3
  have c4 : w0.cell? ⟨w.heap.size, 4, none⟩ = some (.int .i64 fm) := k0.cell 4
  have HP := Lib.hid (fun W => (refOfPrimary_any s W hs).mono fun e w' h => of_pri h)
  have HQ := Lib.hid (fun W => (refOfSecondary_any s W hs).mono fun e w' h => of_sec h)
  clear S0 k0 hs
  by_cases h : fk = 3
  · rw [decide_eq_true h]
    have i3 : ((fk : Int) == 3) = true := by rw [beq_iff_eq]; omega
    clear h
    go_enter Try.func30, Try.ntmps30
    go_wp2_with fail
    clear hw0 c0 c1 c2 c3 c4
    have H1 := HS
    refine (HQ.out _).mono ?_
    rintro e w2 ⟨ok, k, st, en, rfl, hp, b2⟩
    have H2 := Lib.hid (H1.out.step b2)
    have k1 := (H2.out.2 _ (List.mem_cons_self ..))
    have HH := Lib.hid hp
    have d0 : w2.cell? ⟨w.heap.size + 1, 0, none⟩ = some (.string ⟨#[]⟩) := k1.cell 0
    have d1 : w2.cell? ⟨w.heap.size + 1, 1, none⟩ = some (.int .i64 0) := k1.cell 1
    have d2 : w2.cell? ⟨w.heap.size + 1, 2, none⟩ = some (.int .i64 0) := k1.cell 2
    have hf := fun o => k1.frozen o
    have e0 : (((w2.setCell ⟨w.heap.size + 1, 0, none⟩ (.string k)).setCell ⟨w.heap.size + 1, 1, none⟩ (.int .i64 st)).setCell ⟨w.heap.size + 1, 2, none⟩ (.int .i64 en)).cell? ⟨w.heap.size + 1, 0, none⟩ = some (.string k) := (((k1.set_ 0 (.string k)).set_ 1 (.int .i64 st)).set_ 2 (.int .i64 en)).cell 0
    have e1 : (((w2.setCell ⟨w.heap.size + 1, 0, none⟩ (.string k)).setCell ⟨w.heap.size + 1, 1, none⟩ (.int .i64 st)).setCell ⟨w.heap.size + 1, 2, none⟩ (.int .i64 en)).cell? ⟨w.heap.size + 1, 1, none⟩ = some (.int .i64 st) := (((k1.set_ 0 (.string k)).set_ 1 (.int .i64 st)).set_ 2 (.int .i64 en)).cell 1
    have e2 : (((w2.setCell ⟨w.heap.size + 1, 0, none⟩ (.string k)).setCell ⟨w.heap.size + 1, 1, none⟩ (.int .i64 st)).setCell ⟨w.heap.size + 1, 2, none⟩ (.int .i64 en)).cell? ⟨w.heap.size + 1, 2, none⟩ = some (.int .i64 en) := (((k1.set_ 0 (.string k)).set_ 1 (.int .i64 st)).set_ 2 (.int .i64 en)).cell 2
    clear k1 hp
    go_wp2_with fail
    refine bodyPost_ret (v := .tuple #[.agg #[.string k, .int .i64 st, .int .i64 en], .bool ok]) ?_ rfl ?_
    · simp [results, Try.results30, go_sem, e0, e1, e2]
    · exact ⟨ok, k, st, en, rfl, HH.out, ((H2.out.1.setCell (by simp) _).setCell (by simp) _).setCell (by simp) _⟩
  · rw [decide_eq_false h]
    have i3 : ((fk : Int) == 3) = false := by rw [beq_eq_false_iff_ne]; omega
    clear h
    go_enter Try.func30, Try.ntmps30
    go_wp2_with fail
    clear hw0 c0 c1 c2 c3 c4
    have H1 := HS
    refine (HP.out _).mono ?_
    rintro e w2 ⟨ok, k, st, en, rfl, hp, b2⟩
    have H2 := Lib.hid (H1.out.step b2)
    have k1 := (H2.out.2 _ (List.mem_cons_self ..))
    have HH := Lib.hid hp
    have d0 : w2.cell? ⟨w.heap.size + 1, 0, none⟩ = some (.string ⟨#[]⟩) := k1.cell 0
    have d1 : w2.cell? ⟨w.heap.size + 1, 1, none⟩ = some (.int .i64 0) := k1.cell 1
    have d2 : w2.cell? ⟨w.heap.size + 1, 2, none⟩ = some (.int .i64 0) := k1.cell 2
    have hf := fun o => k1.frozen o
    have e0 : (((w2.setCell ⟨w.heap.size + 1, 0, none⟩ (.string k)).setCell ⟨w.heap.size + 1, 1, none⟩ (.int .i64 st)).setCell ⟨w.heap.size + 1, 2, none⟩ (.int .i64 en)).cell? ⟨w.heap.size + 1, 0, none⟩ = some (.string k) := (((k1.set_ 0 (.string k)).set_ 1 (.int .i64 st)).set_ 2 (.int .i64 en)).cell 0
    have e1 : (((w2.setCell ⟨w.heap.size + 1, 0, none⟩ (.string k)).setCell ⟨w.heap.size + 1, 1, none⟩ (.int .i64 st)).setCell ⟨w.heap.size + 1, 2, none⟩ (.int .i64 en)).cell? ⟨w.heap.size + 1, 1, none⟩ = some (.int .i64 st) := (((k1.set_ 0 (.string k)).set_ 1 (.int .i64 st)).set_ 2 (.int .i64 en)).cell 1
    have e2 : (((w2.setCell ⟨w.heap.size + 1, 0, none⟩ (.string k)).setCell ⟨w.heap.size + 1, 1, none⟩ (.int .i64 st)).setCell ⟨w.heap.size + 1, 2, none⟩ (.int .i64 en)).cell? ⟨w.heap.size + 1, 2, none⟩ = some (.int .i64 en) := (((k1.set_ 0 (.string k)).set_ 1 (.int .i64 st)).set_ 2 (.int .i64 en)).cell 2
    clear k1 hp
    go_wp2_with fail
    refine bodyPost_ret (v := .tuple #[.agg #[.string k, .int .i64 st, .int .i64 en], .bool ok]) ?_ rfl ?_
    · simp [results, Try.results30, go_sem, e0, e1, e2]
    · exact ⟨ok, k, st, en, rfl, HH.out, ((H2.out.1.setCell (by simp) _).setCell (by simp) _).setCell (by simp) _⟩
set_option maxRecDepth 100000 in
set_option maxHeartbeats 1000000 in
theorem refRow_any (fk : Nat) (fK fT : ByteArray) (fl fm : Int) (k : ByteArray) (s e : Int) (w : World) (hp : panOk ⟨k, s, e⟩) : Calls Try.prog 33 #[.agg #[.int .u8 (fk : Int), .string fK, .string fT, .int .i64 fl, .int .i64 fm], .agg #[.string k, .int .i64 s, .int .i64 e]] w (TextP w (row (decide (fk = 3)) ⟨k, s, e⟩)) := by
  have hbe := below_al2 w (.cells #[.int .u8 (fk : Int), .string fK, .string fT, .int .i64 fl, .int .i64 fm] 37) (.cells #[.string k, .int .i64 s, .int .i64 e] 34)
  have HP := Lib.hid (fun W => refPrimary_any k s e W hp.1 hp.2.1 hp.2.2)
  have HQ := Lib.hid (fun W => refSecondary_any k s e W hp.1 hp.2.1 hp.2.2)
  unfold paneV at HP HQ
  clear hp
  by_cases h : fk = 3
  · rw [decide_eq_true h]
    subst h
    go_enter Try.func33, Try.ntmps33
    go_wp2_with fail
    refine (HQ.out _).mono ?_
    rintro e w1 ⟨U, rfl, hU, hUs, b1⟩
    go_wp2_with fail
    go_ret
    exact ⟨U, rfl, hU, hUs, hbe.trans (b1.mono hbe.size)⟩
  · rw [decide_eq_false h]
    have i3 : ¬ (fk : Int) = 3 := by omega
    go_enter Try.func33, Try.ntmps33
    go_wp2_with fail
    refine (HP.out _).mono ?_
    rintro e w1 ⟨U, rfl, hU, hUs, b1⟩
    go_wp2_with fail
    go_ret
    exact ⟨U, rfl, hU, hUs, hbe.trans (b1.mono hbe.size)⟩
end Go.Proofs.Ytponelbfddfliaa
