/- Layer 5, the program: a value put into an aggregate. -/
import Derived.Test.YtaahlepgmcgcfaaAgA
import Derived.Test.YtaahlepgmcgcfaaAgB
namespace Go.Proofs.Ytaahlepgmcgcfaa
open Go.ChangeShapes Go.WideShapes Go.ChangeAt Go.RowKit

theorem one_live (v : Int) : Ag.blank (Ag.one v) = false := rfl
theorem fits_v {v : Int} (h : i64ok v) : Ag.fits v = true := decide_eq_true h
theorem put_blank {a : Ag.A} {v : Int} (h : Ag.blank a = true) (hv : i64ok v) : Ag.put a v = some (Ag.one v) := by
  unfold Ag.put Ag.join Ag.live
  have e : [a, Ag.one v].filter (fun a => !Ag.blank a) = [Ag.one v] := by simp [h, one_live]
  rw [e]
  have e1 : ([Ag.one v].map (·.c)).sum = 1 := rfl
  have e2 : ([Ag.one v].map (·.s)).sum = v := by simp [Ag.one]
  rw [e1, e2, fits_v hv]
  rfl
theorem put_live {a : Ag.A} {v : Int} (h : Ag.blank a = false) : Ag.put a v = if fitB (a.c + 1) && fitB (a.s + v) then some ⟨a.c + 1, a.s + v, imin a.lo v, imax a.hi v⟩ else none := by
  unfold Ag.put Ag.join Ag.live
  have e : [a, Ag.one v].filter (fun a => !Ag.blank a) = [a, Ag.one v] := by simp [h, one_live]
  rw [e]
  have e1 : ([a, Ag.one v].map (·.c)).sum = a.c + 1 := by simp [Ag.one]
  have e2 : ([a, Ag.one v].map (·.s)).sum = a.s + v := by simp [Ag.one]
  rw [e1, e2]
  rfl
theorem aggOk_bd {a : Ag.A} (h : aggOk a) : i64ok a.c ∧ i64ok a.s := ⟨h.1, h.2.1⟩
theorem two_blk (w : World) (T : TypeId) (x0 x1 x2 x3 y0 y1 y2 y3 : Value) : ∃ w0, (w.alloc (.cells #[x0, x1, x2, x3] T)).alloc (.cells #[y0, y1, y2, y3] T) = w0 ∧ Blk w0 w.heap.size T #[x0, x1, x2, x3] ∧ Blk w0 (w.heap.size + 1) T #[y0, y1, y2, y3] ∧ Below w.heap.size w w0 ∧ w0.heap.size = w.heap.size + 2 := by
  refine ⟨_, rfl, ?_, ?_, ((Below.refl _ _).alloc (Nat.le_refl _) _).alloc (by simp) _, by simp⟩
  · exact (Blk.new w T _).below ((Below.refl _ _).alloc (Nat.le_refl _) _) (Blk.new w T _).lt
  · have := Blk.new (w.alloc (.cells #[x0, x1, x2, x3] T)) T #[y0, y1, y2, y3]
    rw [World.size_alloc] at this
    exact this
/-- Both blocks, behind a call that makes memory. -/
theorem two_next {w w0 w1 : World} {T : TypeId} {g : Nat} {X Y : Array Value} (h : Blk w0 g T X ∧ Blk w0 (g + 1) T Y ∧ Below g w w0 ∧ w0.heap.size = g + 2) (b : Below w0.heap.size w0 w1) : Blk w1 g T X ∧ Blk w1 (g + 1) T Y ∧ Below g w w1 ∧ g + 2 ≤ w1.heap.size :=
  ⟨h.1.below b (by rw [h.2.2.2]; omega), h.2.1.below b (by rw [h.2.2.2]; omega), h.2.2.1.trans (b.mono (by rw [h.2.2.2]; omega)), by have := b.size; rw [h.2.2.2] at this; exact this⟩
theorem two_more {w w1 w2 : World} {T : TypeId} {g : Nat} {X Y : Array Value} (h : Blk w1 g T X ∧ Blk w1 (g + 1) T Y ∧ Below g w w1 ∧ g + 2 ≤ w1.heap.size) (b : Below w1.heap.size w1 w2) : Blk w2 g T X ∧ Blk w2 (g + 1) T Y ∧ Below g w w2 ∧ g + 2 ≤ w2.heap.size :=
  ⟨h.1.below b (by have := h.2.2.2; omega), h.2.1.below b (by have := h.2.2.2; omega), h.2.2.1.trans (b.mono (by have := h.2.2.2; omega)), by have := b.size; have := h.2.2.2; omega⟩
set_option maxRecDepth 100000 in
set_option maxHeartbeats 4000000 in
theorem put_any (a : Ag.A) (v : Int) (w : World) (ha : aggOk a) (hv : i64ok v) :
    Calls Try.prog 22 #[.agg #[.int .i64 a.c, .int .i64 a.s, .int .i64 a.lo, .int .i64 a.hi], .int .i64 v] w (PutE w a (Ag.put a v)) := by
  obtain ⟨w0, hw0, h0⟩ := two_blk w 33 (.int .i64 a.c) (.int .i64 a.s) (.int .i64 a.lo) (.int .i64 a.hi) (.int .i64 0) (.int .i64 0) (.int .i64 0) (.int .i64 0)
  have hr0 := h0.1.cell 0
  have hr1 := h0.1.cell 1
  have hr2 := h0.1.cell 2
  have hr3 := h0.1.cell 3
  have HZ := Lib.hid h0
  clear h0
  cases hbl : Ag.blank a
  · have hadd1 := fun W => add_any a.c 1 W ha.1 (by decide)
    have hadd2 := fun W => add_any a.s v W ha.2.1 hv
    have HA1 := Lib.hid hadd1
    have HA2 := Lib.hid hadd2
    rw [put_live hbl]
    clear hadd1 hadd2 ha hv
    cases hf : (fitB (a.c + 1) && fitB (a.s + v))
    · rw [if_neg (by decide)]
      obtain ⟨x1, hx1⟩ : ∃ x, fitB (a.c + 1) = x := ⟨_, rfl⟩
      obtain ⟨x2, hx2⟩ : ∃ x, fitB (a.s + v) = x := ⟨_, rfl⟩
      obtain ⟨y1, hy1⟩ : ∃ x, fitN (a.c + 1) = x := ⟨_, rfl⟩
      obtain ⟨y2, hy2⟩ : ∃ x, fitN (a.s + v) = x := ⟨_, rfl⟩
      rw [hx1, hx2] at hf
      have HX1 := Lib.hid (And.intro hx1 hy1)
      have HX2 := Lib.hid (And.intro hx2 hy2)
      have hbn := fun W => blank_any a W
      rw [hbl] at hbn
      have HBN := Lib.hid hbn
      clear hx1 hx2 hy1 hy2 hbn hbl
      have K : ∀ (x1 x2 : Bool), (x1 && x2) = false → Hid (fitB (a.c + 1) = x1 ∧ fitN (a.c + 1) = y1) → Hid (fitB (a.s + v) = x2 ∧ fitN (a.s + v) = y2) → Calls Try.prog 22 #[.agg #[.int .i64 a.c, .int .i64 a.s, .int .i64 a.lo, .int .i64 a.hi], .int .i64 v] w (PutE w a none) := by
        clear hf HX1 HX2 x1 x2
        intro x1 x2 hf HX1 HX2
        cases x1
        all_goals first | (cases x2; skip) | skip
        all_goals first | (cases hf; done) | clear hf
        all_goals
          go_enter Try.func22, Try.ntmps22
          go_wp2_with (first
            | (go_at_call 37; (with_reducible refine (HBN.out _).mono ?_); rintro e w1 ⟨rfl, b1⟩; have hk := two_next HZ.out b1; clear hr0 hr1 hr2 hr3; have hr0 := hk.1.cell 0; have hr1 := hk.1.cell 1; have hr2 := hk.1.cell 2; have hr3 := hk.1.cell 3; have hc0 := hk.2.1.cell 0; have hc1 := hk.2.1.cell 1; have hc2 := hk.2.1.cell 2; have hc3 := hk.2.1.cell 3; have hf0 := hk.2.1.frozen 0; have hf1 := hk.2.1.frozen 1; have hf2 := hk.2.1.frozen 2; have hf3 := hk.2.1.frozen 3; have HK := Lib.hid hk; clear b1 hk)
            | (go_at_call 39; have _t := hr0; (with_reducible refine (HA1.out _).mono ?_); unfold TwoB; rw [HX1.out.1, HX1.out.2]; rintro e w1 ⟨rfl, rfl⟩)
            | (go_at_call 39; (with_reducible refine (HA2.out _).mono ?_); unfold TwoB; rw [HX2.out.1, HX2.out.2]; rintro e w1 ⟨rfl, rfl⟩))
          have hd := blk_four HK.out.2.1 (.int .i64 a.c) (.int .i64 a.s) (.int .i64 a.lo) (.int .i64 a.hi)
          have e0 := hd.cell 0
          have e1 := hd.cell 1
          have e2 := hd.cell 2
          have e3 := hd.cell 3
          refine bodyPost_ret (v := .tuple #[aggV a, .int .i64 30]) ?_ rfl ⟨?_, rfl⟩
          · simp [results, Try.results22, go_sem, aggV, e0, e1, e2, e3]
          · exact below_four' HK.out.2.2.1 (by omega) _ _ _ _
      exact K x1 x2 hf HX1 HX2
    · rw [if_pos rfl]
      have hf1 : fitB (a.c + 1) = true := by revert hf; cases fitB (a.c + 1) <;> simp
      have hf2 : fitB (a.s + v) = true := by revert hf; cases fitB (a.s + v) <;> simp
      have hn1 := (sum_yes' hf1).2
      have hn2 := (sum_yes' hf2).2
      have HX1 := Lib.hid (And.intro hf1 hn1)
      have HX2 := Lib.hid (And.intro hf2 hn2)
      have hbn := fun W => blank_any a W
      rw [hbl] at hbn
      have HBN := Lib.hid hbn
      have hmn := fun W => imin_run a.lo v W
      have hmx := fun W => imax_run a.hi v W
      clear hf hf1 hf2 hn1 hn2 hbn hbl
      go_enter Try.func22, Try.ntmps22
      go_wp2_with (first
        | (go_at_call 37; (with_reducible refine (HBN.out _).mono ?_); rintro e w1 ⟨rfl, b1⟩; have hk := two_next HZ.out b1; clear hr0 hr1 hr2 hr3; have hr0 := hk.1.cell 0; have hr1 := hk.1.cell 1; have hr2 := hk.1.cell 2; have hr3 := hk.1.cell 3; have hc0 := hk.2.1.cell 0; have hc1 := hk.2.1.cell 1; have hc2 := hk.2.1.cell 2; have hc3 := hk.2.1.cell 3; have hf0 := hk.2.1.frozen 0; have hf1 := hk.2.1.frozen 1; have hf2 := hk.2.1.frozen 2; have hf3 := hk.2.1.frozen 3; have HK := Lib.hid hk; clear b1 hk)
        | (go_at_call 39; have _t := hr0; (with_reducible refine (HA1.out _).mono ?_); unfold TwoB; rw [HX1.out.1, HX1.out.2]; rintro e w1 ⟨rfl, rfl⟩)
        | (go_at_call 39; (with_reducible refine (HA2.out _).mono ?_); unfold TwoB; rw [HX2.out.1, HX2.out.2]; rintro e w1 ⟨rfl, rfl⟩))
      have hd := blk_four HK.out.2.1 (.int .i64 (a.c + 1)) (.int .i64 (a.s + v)) (.int .i64 (imin a.lo v)) (.int .i64 (imax a.hi v))
      have e0 := hd.cell 0
      have e1 := hd.cell 1
      have e2 := hd.cell 2
      have e3 := hd.cell 3
      refine bodyPost_ret (v := .tuple #[.agg #[.int .i64 (a.c + 1), .int .i64 (a.s + v), .int .i64 (imin a.lo v), .int .i64 (imax a.hi v)], .int .i64 0]) ?_ rfl ⟨?_, rfl⟩
      · simp [results, Try.results22, go_sem, e0, e1, e2, e3]
      · exact below_four' HK.out.2.2.1 (by omega) _ _ _ _
  · rw [put_blank hbl hv]
    have hbn := fun W => blank_any a W
    rw [hbl] at hbn
    have HBN := Lib.hid hbn
    clear hbn hbl ha hv
    go_enter Try.func22, Try.ntmps22
    go_wp2_with (first
      | (go_at_call 37; (with_reducible refine (HBN.out _).mono ?_); rintro e w1 ⟨rfl, b1⟩; have hk := two_next HZ.out b1; have HK := Lib.hid hk; clear b1 hk hr0 hr1 hr2 hr3)
      | (go_at_call 25; (with_reducible refine (one_any _ _).mono ?_); rintro e w2 ⟨rfl, b1⟩; have hk := two_more HK.out b1; have hc0 := hk.2.1.cell 0; have hc1 := hk.2.1.cell 1; have hc2 := hk.2.1.cell 2; have hc3 := hk.2.1.cell 3; have hf0 := hk.2.1.frozen 0; have hf1 := hk.2.1.frozen 1; have hf2 := hk.2.1.frozen 2; have hf3 := hk.2.1.frozen 3; have HK2 := Lib.hid hk; simp only [aggV, Ag.one]; clear b1 hk))
    have hd := blk_four HK2.out.2.1 (.int .i64 1) (.int .i64 v) (.int .i64 v) (.int .i64 v)
    have e0 := hd.cell 0
    have e1 := hd.cell 1
    have e2 := hd.cell 2
    have e3 := hd.cell 3
    refine bodyPost_ret (v := .tuple #[.agg #[.int .i64 1, .int .i64 v, .int .i64 v, .int .i64 v], .int .i64 0]) ?_ rfl ⟨?_, rfl⟩
    · simp [results, Try.results22, go_sem, e0, e1, e2, e3]
    · exact below_four' HK2.out.2.2.1 (by omega) _ _ _ _
end Go.Proofs.Ytaahlepgmcgcfaa
