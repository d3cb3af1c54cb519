/- Layer 8, the program: a flag, lists taken. -/
import Derived.Test.YtognlgklepgemaaRpTb
namespace Go.Proofs.Ytognlgklepgemaa
open Go.ChangeShapes Go.WideShapes Go.ChangeAt Go.RowKit

theorem vl_lt1 {s : Rp.St} (h : ∀ x ∈ s.1, x < 256) : Rp.vl s 1 < 256 := Pk.taken_num_lt s.2 s.1 1 h
theorem Tk.lt {w0 W : World} {T g : Nat} {s : Rp.St} {odd : Bool} (h : Tk w0 W T g s odd) : ∀ x ∈ s.1, x < 256 := h.2.1.lt
theorem Tk.grow {w0 W W' : World} {T g : Nat} {s : Rp.St} {odd : Bool} {row : Option Nat} (h : Tk w0 W T g s odd) (hg : W.grownBy W' row) (hr : ∀ k, row = some k → g < k ∧ T < k) : Tk w0 W' T g s odd := by
  have hT : W'.heap[T]? = W.heap[T]? := hg.block T h.1.lt (fun e => by have := (hr T e.symm).2; omega)
  have hb : Below w0.heap.size W W' := ⟨hg.os, hg.tape, hg.output, hg.size, fun k hk => hg.block k (by have := h.2.2.1.size; omega) (fun e => by have := (hr k e.symm).1; have := h.2.2.2.1; omega)⟩
  refine ⟨hT.trans h.1, ?_, h.2.2.1.trans hb, h.2.2.2⟩
  rcases row with _ | k
  · have hg2 : W.grownBy W' (some W.heap.size) := ⟨hg.os, hg.tape, hg.output, hg.size, fun k hk _ => hg.block k hk (by simp)⟩
    exact h.2.1.kept hg2 (.inl h.here) h.2.2.2.1
  · exact h.2.1.kept hg (.inl (hr k rfl).1) h.2.2.2.1
theorem StayR.grow {W w2 w3 : World} {row : Option Nat} (h : StayR W w2) (hg : w2.grownBy w3 row) (hr : ∀ k, row = some k → W.heap.size ≤ k) : StayR W w3 :=
  ⟨fun k t cs ht hb => (hg.block k (by have := hb.lt; have := h.2; omega) (fun e => by have := hr k e.symm; have := hb.lt; omega)).trans (h.1 k t cs ht hb), Nat.le_trans h.2 hg.size⟩
set_option maxRecDepth 100000 in
set_option maxHeartbeats 1000000 in
theorem take_flag (w0 W : World) (T g R i : Nat) (s : Rp.St) (odd : Bool) (cs : Array Value) (h : Tk w0 W T g s odd) (hb : Blk W R 28 cs) (hgR : g < R) (hRT : R ≠ T) (hi : i < cs.size) (hgT : g < T) :
    Calls Try.prog 116 #[.pointer (some ⟨T, 0, none⟩), .pointer (some ⟨R, i, none⟩)] W (TakeP w0 W T g R i (Rp.nx s 1) (odd || decide (1 < Rp.vl s 1)) cs (.bool (decide (Rp.vl s 1 = 1)))) := by
  obtain ⟨t0, -⟩ := h.cell
  have H := Lib.hid (And.intro (tk_u8 h) hb)
  obtain ⟨n, hn⟩ : ∃ n, Rp.vl s 1 = n := ⟨_, rfl⟩
  have e1 : ((n : Int) == 1) = decide (n = 1) := by rw [Bool.eq_iff_iff, beq_iff_eq, decide_eq_true_iff]; omega
  have e2 : decide ((1 : Int) < n) = decide (1 < n) := by rw [decide_eq_decide]; omega
  rw [hn] at H ⊢
  generalize decide (n = 1) = b1 at *
  clear h hb
  go_enter Try.func116, Try.ntmps116
  go_wp2_with fail
  clear t0
  refine H.out.1.mono ?_
  rintro e w1 ⟨rfl, k1, t1⟩
  have K1 := t1.1 _ _ _ (by decide) H.out.2
  have c1 : w1.cell? ⟨R, i, none⟩ = some (cs[i]) := (K1.cell i).trans (Array.getElem?_eq_getElem hi)
  have f1 := K1.frozen i
  have k2 := k1.set (P := R) (i := i) hgR hRT (.bool b1)
  have K2 := K1.set_ i (.bool b1)
  obtain ⟨t0, o1, of⟩ := k2.cell
  have k3 : ∀ b : Bool, Tk w0 ((w1.setCell ⟨R, i, none⟩ (.bool b1)).setCell ⟨T, 1, none⟩ (.bool b)) T g (Rp.nx s 1) b := fun b => by
    have hT : Blk ((w1.setCell ⟨R, i, none⟩ (.bool b1)).setCell ⟨T, 1, none⟩ (.bool b)) T 107 #[.pointer (some ⟨g, 0, none⟩), .bool b] := k2.1.set_ 1 (.bool b)
    exact ⟨hT, k2.2.1.kept (grown_set 1 (.bool b)) (.inl hgT) k2.2.2.2.1, k2.2.2.1.setCell (p := ⟨T, 1, none⟩) k2.2.2.2.2 _, k2.2.2.2⟩
  have HH := Lib.hid (And.intro k3 (And.intro (fun b : Bool => K2.far (b := T) (o := 1) (fun e => hRT e.symm) (.bool b)) t1))
  have hfr : ∀ b : Bool, (∀ k t ds, t ≠ 136 → t ≠ 107 → k ≠ R → Blk W k t ds → Blk ((w1.setCell ⟨R, i, none⟩ (.bool b1)).setCell ⟨T, 1, none⟩ (.bool b)) k t ds) ∧ W.heap.size ≤ ((w1.setCell ⟨R, i, none⟩ (.bool b1)).setCell ⟨T, 1, none⟩ (.bool b)).heap.size := fun b =>
    ⟨fun k t ds h1 h2 h3 hk => ((t1.1 k t ds h1 hk).far (fun e => h3 e.symm) _).far (fun e => blk_ne ((t1.1 k t ds h1 hk).far (fun e => h3 e.symm) (.bool b1)) k2.1 h2 e.symm) _, by simpa [World.setCell] using t1.2⟩
  have HF := Lib.hid hfr
  clear k1 t1 K1 k2 K2 k3 hfr
  cases odd
  · by_cases hg1 : 1 < n
    · have HG := Lib.hid (show (false || decide (1 < n)) = true from by rw [decide_eq_true hg1]; rfl)
      rw [decide_eq_true hg1] at e2
      clear hg1
      go_wp2_with fail
      go_end0
      exact ⟨rfl, by rw [HG.out]; exact HH.out.1 true, HH.out.2.1 true, HF.out true⟩
    · have HG := Lib.hid (show (false || decide (1 < n)) = false from by rw [decide_eq_false hg1]; rfl)
      rw [decide_eq_false hg1] at e2
      have hg2 : ¬ (1 : Int) < n := by omega
      clear hg1
      go_wp2_with fail
      go_end0
      exact ⟨rfl, by rw [HG.out]; exact HH.out.1 false, HH.out.2.1 false, HF.out false⟩
  · rw [Bool.true_or]
    go_wp2_with fail
    go_end0
    exact ⟨rfl, HH.out.1 true, HH.out.2.1 true, HF.out true⟩
theorem Try.info81 : (Try.prog.info? 81).map (fun i => (i.zero, i.size, i.bytes)) = some (some (.agg #[.string ⟨#[]⟩, .int .i64 0, .int .i64 0, .int .i64 0, .int .i64 0, .int .i64 0, .int .i64 0]), 7, 64) := by kernel_rfl
set_option maxRecDepth 100000 in
set_option maxHeartbeats 2000000 in
theorem takeList_row (w0 W : World) (T g : Nat) (s : Rp.St) (odd : Bool) (h : Tk w0 W T g s odd) :
    Calls Try.prog 124 #[.pointer (some ⟨T, 0, none⟩), .func (.func 125) #[.pointer (some ⟨T, 0, none⟩)] #[]] W fun e W' => ∃ A c, e = .returned (.slice A (Rp.vl s 1) c) ∧ W'.ownsRow W.heap.size 81 7 (.slice A (Rp.vl s 1) c) (Rp.vl s 1) (rcells (Rp.tList Rp.tRow (Rp.vl s 1) (Rp.nx s 1)).1) ∧ Tk w0 W' T g (Rp.tList Rp.tRow (Rp.vl s 1) (Rp.nx s 1)).2 odd ∧ StayR W W' := by
  obtain ⟨i0, hi, hz0, hz1, hz2⟩ := info_parts Try.info81
  have HI := Lib.hid (And.intro hi (And.intro hz0 (And.intro hz1 hz2)))
  clear hi hz0 hz1 hz2
  obtain ⟨t0, -⟩ := h.cell
  have hgW := h.here
  have hTW := h.top
  have hn := vl_lt1 h.lt
  have H := Lib.hid (tk_u8 h)
  obtain ⟨n, hN⟩ : ∃ n, Rp.vl s 1 = n := ⟨_, rfl⟩
  obtain ⟨s1, hs1⟩ : ∃ s1, Rp.nx s 1 = s1 := ⟨_, rfl⟩
  rw [hN, hs1] at H ⊢
  rw [hN] at hn
  clear h hN hs1
  go_enter Try.func124, Try.ntmps124
  go_wp2_with fail
  clear t0
  refine H.out.mono ?_
  rintro e w1 ⟨rfl, k1, t1⟩
  have H1 := Lib.hid (And.intro k1 t1)
  clear k1 t1
  go_wp2_with fail
  go_loopw [5, 11] (fun r i wr => ∃ j : Nat, j ≤ n ∧ i = .int .u8 (j : Int) ∧ wr.ownsRow W.heap.size 81 7 r j (rcells (Rp.tList Rp.tRow j s1).1) ∧ Tk w0 wr T g (Rp.tList Rp.tRow j s1).2 odd ∧ StayR W wr) (fun _ i _ => n - (intOf i).toNat)
  case atStart => exact ⟨0, by omega, rfl, own_nil _ _ _ _, H1.out.1, H1.out.2⟩
  case round =>
    obtain ⟨j, hj, rfl, hown, htk, hst⟩ := hrel
    obtain ⟨A3, c3, rfl⟩ := own_slice hown
    by_cases hlt : j < n
    · have CR := Lib.hid (take_row w0 _ T g (Rp.tList Rp.tRow j s1).2 odd htk)
      have hsn := Rp.tList_snoc Rp.tRow j s1
      obtain ⟨L, hL⟩ : ∃ L, (Rp.tList Rp.tRow j s1).1 = L := ⟨_, rfl⟩
      obtain ⟨x, hx⟩ : ∃ x, (Rp.tRow (Rp.tList Rp.tRow j s1).2).1 = x := ⟨_, rfl⟩
      obtain ⟨s2, hs2⟩ : ∃ s2, (Rp.tRow (Rp.tList Rp.tRow j s1).2).2 = s2 := ⟨_, rfl⟩
      rw [hx, hs2] at CR hsn
      rw [hL] at hown hsn
      have HO := Lib.hid (And.intro hown (And.intro hst hsn))
      have i1 : (j : Int) < n := by omega
      have iw : IntKind.u8.wrap ((j : Int) + 1) = ((j + 1 : Nat) : Int) := by
        simp [IntKind.wrap, IntKind.bits, IntKind.signed]
        omega
      clear hown htk hst hsn hL hx hs2
      unfold rowV at CR
      go_wp2_with fail
      refine CR.out.mono ?_
      rintro e w2 ⟨rfl, k2, t2⟩
      have b2 : Below w2.heap.size w2 (w2.alloc (.cells #[.string x.p.k, .int .i64 x.p.s, .int .i64 x.p.e, .int .i64 x.a.c, .int .i64 x.a.s, .int .i64 x.a.lo, .int .i64 x.a.hi] 81)) := (Below.refl _ _).alloc (Nat.le_refl _) _
      have H2 := Lib.hid (And.intro (own_below (own_stay HO.out.1 t2 (by decide)) b2) (And.intro (k2.below b2) ((HO.out.2.1.trans t2).trans (StayR.below b2))))
      have hz2 : W.heap.size ≤ w2.heap.size := (HO.out.2.1.trans t2).2
      clear k2 t2 b2
      try unfold rowV
      go_wp2_with (at_builtin; refine wpList_append_own _ rfl _ _ 25 rfl W.heap.size 81 i0 (.agg #[.string ⟨#[]⟩, .int .i64 0, .int .i64 0, .int .i64 0, .int .i64 0, .int .i64 0, .int .i64 0]) 7 64 Try.underlying25 HI.out.1 HI.out.2.1 HI.out.2.2.1 HI.out.2.2.2 rfl (by decide) _ j _ rfl H2.out.1 ⟨w2.heap.size, 0, none⟩ 1 1 [.string x.p.k, .int .i64 x.p.s, .int .i64 x.p.e, .int .i64 x.a.c, .int .i64 x.a.s, .int .i64 x.a.lo, .int .i64 x.a.hi] rfl rfl (cells7 w2 _ _ _ _ _ _ _ _) (by simp [Value.oneCell']) (by unfold maxLen; omega) (by omega) (by simp; omega) ?_; intro v' w3 hown hgrow _)
      have k3 := H2.out.2.1.grow hgrow (fun k hk => by have := (H2.out.1.lt k hk).1; omega)
      have t3 := H2.out.2.2.grow hgrow (fun k hk => (H2.out.1.lt k hk).1)
      refine ⟨⟨j + 1, by omega, by go_num, ?_, ?_, t3⟩, by simp [intOf]; omega⟩
      · rw [HO.out.2.2]
        show w3.ownsRow W.heap.size _ _ _ (j + 1) (rcells (L ++ [x]))
        rw [rcells_snoc]
        exact hown
      · rw [HO.out.2.2]
        exact k3
    · obtain rfl : j = n := by omega
      have HF := Lib.hid (And.intro hown (And.intro htk hst))
      clear hown htk hst
      go_wp2_with fail
      go_ret
      exact ⟨A3, c3, rfl, HF.out⟩
set_option maxRecDepth 100000 in
set_option maxHeartbeats 1000000 in
theorem take_rows (w0 W : World) (T g R i : Nat) (s : Rp.St) (odd : Bool) (cs : Array Value) (h : Tk w0 W T g s odd) (hb : Blk W R 28 cs) (hgR : g < R) (hRT : R ≠ T) (hi : i < cs.size) :
    Calls Try.prog 119 #[.pointer (some ⟨T, 0, none⟩), .pointer (some ⟨R, i, none⟩)] W fun e W' => ∃ A c, TakeP w0 W T g R i (Rp.tList Rp.tRow (Rp.vl s 1) (Rp.nx s 1)).2 odd cs (.slice A (Rp.vl s 1) c) e W' ∧ W'.ownsRow W.heap.size 81 7 (.slice A (Rp.vl s 1) c) (Rp.vl s 1) (rcells (Rp.tList Rp.tRow (Rp.vl s 1) (Rp.nx s 1)).1) := by
  have H := Lib.hid (And.intro (takeList_row w0 W T g s odd h) hb)
  have hmf : ∀ (fn : Fn) (first cap : Array Value) (w : World), (Instr.makeFunc fn first cap).run Try.prog w = .ok (.func fn first cap) w := fun _ _ _ _ => rfl
  generalize Rp.vl s 1 = n at *
  clear h hb
  go_enter Try.func119, Try.ntmps119
  go_wp2_with fail
  refine H.out.1.mono ?_
  rintro e w1 ⟨A1, c1, rfl, o1, k1, t1⟩
  have K1 := t1.1 _ _ _ (by decide) H.out.2
  have d1 : w1.cell? ⟨R, i, none⟩ = some (cs[i]) := (K1.cell i).trans (Array.getElem?_eq_getElem hi)
  have f1 := K1.frozen i
  have HH := Lib.hid (And.intro (k1.set (P := R) (i := i) hgR hRT (.slice A1 n c1)) (And.intro (K1.set_ i (.slice A1 n c1)) (And.intro t1 (own_off o1 (grown_set i (.slice A1 n c1)) K1 (by decide)))))
  clear k1 t1 K1 o1
  go_wp2_with fail
  go_end0
  exact ⟨A1, c1, ⟨rfl, HH.out.1, HH.out.2.1, fun k t ds h1 _ h3 hk => (HH.out.2.2.1.1 k t ds h1 hk).far (fun e => h3 e.symm) _, by simpa [World.setCell] using HH.out.2.2.1.2⟩, HH.out.2.2.2⟩
theorem Try.info77 : (Try.prog.info? 77).map (fun i => (i.zero, i.size, i.bytes)) = some (some (.agg #[.string ⟨#[]⟩, .int .i64 0, .int .i64 0]), 3, 32) := by kernel_rfl
set_option maxRecDepth 100000 in
set_option maxHeartbeats 2000000 in
theorem takeList_pane (w0 W : World) (T g : Nat) (s : Rp.St) (odd : Bool) (h : Tk w0 W T g s odd) :
    Calls Try.prog 122 #[.pointer (some ⟨T, 0, none⟩), .func (.func 123) #[.pointer (some ⟨T, 0, none⟩)] #[]] W fun e W' => ∃ A c, e = .returned (.slice A (Rp.vl s 1) c) ∧ W'.ownsRow W.heap.size 77 3 (.slice A (Rp.vl s 1) c) (Rp.vl s 1) (pncells (Rp.tList Rp.tPane (Rp.vl s 1) (Rp.nx s 1)).1) ∧ Tk w0 W' T g (Rp.tList Rp.tPane (Rp.vl s 1) (Rp.nx s 1)).2 odd ∧ StayR W W' := by
  obtain ⟨i0, hi, hz0, hz1, hz2⟩ := info_parts Try.info77
  have HI := Lib.hid (And.intro hi (And.intro hz0 (And.intro hz1 hz2)))
  clear hi hz0 hz1 hz2
  obtain ⟨t0, -⟩ := h.cell
  have hgW := h.here
  have hTW := h.top
  have hn := vl_lt1 h.lt
  have H := Lib.hid (tk_u8 h)
  obtain ⟨n, hN⟩ : ∃ n, Rp.vl s 1 = n := ⟨_, rfl⟩
  obtain ⟨s1, hs1⟩ : ∃ s1, Rp.nx s 1 = s1 := ⟨_, rfl⟩
  rw [hN, hs1] at H ⊢
  rw [hN] at hn
  clear h hN hs1
  go_enter Try.func122, Try.ntmps122
  go_wp2_with fail
  clear t0
  refine H.out.mono ?_
  rintro e w1 ⟨rfl, k1, t1⟩
  have H1 := Lib.hid (And.intro k1 t1)
  clear k1 t1
  go_wp2_with fail
  go_loopw [5, 11] (fun r i wr => ∃ j : Nat, j ≤ n ∧ i = .int .u8 (j : Int) ∧ wr.ownsRow W.heap.size 77 3 r j (pncells (Rp.tList Rp.tPane j s1).1) ∧ Tk w0 wr T g (Rp.tList Rp.tPane j s1).2 odd ∧ StayR W wr) (fun _ i _ => n - (intOf i).toNat)
  case atStart => exact ⟨0, by omega, rfl, own_nil _ _ _ _, H1.out.1, H1.out.2⟩
  case round =>
    obtain ⟨j, hj, rfl, hown, htk, hst⟩ := hrel
    obtain ⟨A3, c3, rfl⟩ := own_slice hown
    by_cases hlt : j < n
    · have CR := Lib.hid (take_pane w0 _ T g (Rp.tList Rp.tPane j s1).2 odd htk)
      have hsn := Rp.tList_snoc Rp.tPane j s1
      obtain ⟨L, hL⟩ : ∃ L, (Rp.tList Rp.tPane j s1).1 = L := ⟨_, rfl⟩
      obtain ⟨x, hx⟩ : ∃ x, (Rp.tPane (Rp.tList Rp.tPane j s1).2).1 = x := ⟨_, rfl⟩
      obtain ⟨s2, hs2⟩ : ∃ s2, (Rp.tPane (Rp.tList Rp.tPane j s1).2).2 = s2 := ⟨_, rfl⟩
      rw [hx, hs2] at CR hsn
      rw [hL] at hown hsn
      have HO := Lib.hid (And.intro hown (And.intro hst hsn))
      have i1 : (j : Int) < n := by omega
      have iw : IntKind.u8.wrap ((j : Int) + 1) = ((j + 1 : Nat) : Int) := by
        simp [IntKind.wrap, IntKind.bits, IntKind.signed]
        omega
      clear hown htk hst hsn hL hx hs2
      go_wp2_with fail
      refine CR.out.mono ?_
      rintro e w2 ⟨rfl, k2, t2⟩
      have b2 : Below w2.heap.size w2 (w2.alloc (.cells #[.string x.k, .int .i64 x.s, .int .i64 x.e] 77)) := (Below.refl _ _).alloc (Nat.le_refl _) _
      have H2 := Lib.hid (And.intro (own_below (own_stay HO.out.1 t2 (by decide)) b2) (And.intro (k2.below b2) ((HO.out.2.1.trans t2).trans (StayR.below b2))))
      have hz2 : W.heap.size ≤ w2.heap.size := (HO.out.2.1.trans t2).2
      clear k2 t2 b2
      try unfold rowV
      go_wp2_with (at_builtin; refine wpList_append_own _ rfl _ _ 26 rfl W.heap.size 77 i0 (.agg #[.string ⟨#[]⟩, .int .i64 0, .int .i64 0]) 3 32 Try.underlying26 HI.out.1 HI.out.2.1 HI.out.2.2.1 HI.out.2.2.2 rfl (by decide) _ j _ rfl H2.out.1 ⟨w2.heap.size, 0, none⟩ 1 1 [.string x.k, .int .i64 x.s, .int .i64 x.e] rfl rfl (cells3' w2 _ _ _ _) (by simp [Value.oneCell']) (by unfold maxLen; omega) (by omega) (by simp; omega) ?_; intro v' w3 hown hgrow _)
      have k3 := H2.out.2.1.grow hgrow (fun k hk => by have := (H2.out.1.lt k hk).1; omega)
      have t3 := H2.out.2.2.grow hgrow (fun k hk => (H2.out.1.lt k hk).1)
      refine ⟨⟨j + 1, by omega, by go_num, ?_, ?_, t3⟩, by simp [intOf]; omega⟩
      · rw [HO.out.2.2]
        show w3.ownsRow W.heap.size _ _ _ (j + 1) (pncells (L ++ [x]))
        rw [pncells_snoc]
        exact hown
      · rw [HO.out.2.2]
        exact k3
    · obtain rfl : j = n := by omega
      have HF := Lib.hid (And.intro hown (And.intro htk hst))
      clear hown htk hst
      go_wp2_with fail
      go_ret
      exact ⟨A3, c3, rfl, HF.out⟩
set_option maxRecDepth 100000 in
set_option maxHeartbeats 1000000 in
theorem take_panes (w0 W : World) (T g R i : Nat) (s : Rp.St) (odd : Bool) (cs : Array Value) (h : Tk w0 W T g s odd) (hb : Blk W R 28 cs) (hgR : g < R) (hRT : R ≠ T) (hi : i < cs.size) :
    Calls Try.prog 118 #[.pointer (some ⟨T, 0, none⟩), .pointer (some ⟨R, i, none⟩)] W fun e W' => ∃ A c, TakeP w0 W T g R i (Rp.tList Rp.tPane (Rp.vl s 1) (Rp.nx s 1)).2 odd cs (.slice A (Rp.vl s 1) c) e W' ∧ W'.ownsRow W.heap.size 77 3 (.slice A (Rp.vl s 1) c) (Rp.vl s 1) (pncells (Rp.tList Rp.tPane (Rp.vl s 1) (Rp.nx s 1)).1) := by
  have H := Lib.hid (And.intro (takeList_pane w0 W T g s odd h) hb)
  have hmf : ∀ (fn : Fn) (first cap : Array Value) (w : World), (Instr.makeFunc fn first cap).run Try.prog w = .ok (.func fn first cap) w := fun _ _ _ _ => rfl
  generalize Rp.vl s 1 = n at *
  clear h hb
  go_enter Try.func118, Try.ntmps118
  go_wp2_with fail
  refine H.out.1.mono ?_
  rintro e w1 ⟨A1, c1, rfl, o1, k1, t1⟩
  have K1 := t1.1 _ _ _ (by decide) H.out.2
  have d1 : w1.cell? ⟨R, i, none⟩ = some (cs[i]) := (K1.cell i).trans (Array.getElem?_eq_getElem hi)
  have f1 := K1.frozen i
  have HH := Lib.hid (And.intro (k1.set (P := R) (i := i) hgR hRT (.slice A1 n c1)) (And.intro (K1.set_ i (.slice A1 n c1)) (And.intro t1 (own_off o1 (grown_set i (.slice A1 n c1)) K1 (by decide)))))
  clear k1 t1 K1 o1
  go_wp2_with fail
  go_end0
  exact ⟨A1, c1, ⟨rfl, HH.out.1, HH.out.2.1, fun k t ds h1 _ h3 hk => (HH.out.2.2.1.1 k t ds h1 hk).far (fun e => h3 e.symm) _, by simpa [World.setCell] using HH.out.2.2.1.2⟩, HH.out.2.2.2⟩
end Go.Proofs.Ytognlgklepgemaa
