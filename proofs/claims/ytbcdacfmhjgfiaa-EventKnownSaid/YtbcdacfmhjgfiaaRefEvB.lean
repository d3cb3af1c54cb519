/- Layer 6's reference: operations, packed. -/
import Derived.Test.YtbcdacfmhjgfiaaRefEvA
import Derived.Deep.DeepCutAuto
namespace Go.Proofs.Ytbcdacfmhjgfiaa
open Go.ChangeShapes Go.WideShapes Go.ChangeAt Go.RowKit

def PutB (w : World) (l : List Nat) (r : Int) (e : Ending) (w' : World) : Prop := ∃ (A : Option Addr) (c : Nat), e = .returned (.tuple #[.slice A l.length c, .int .i64 r]) ∧ w'.ownsRow w.heap.size 5 1 (.slice A l.length c) l.length (u8s l) ∧ Below w.heap.size w w'
/-- What Put tells. -/
def Ev.bytes (o : Evo) : List Nat := if Ev.right o = 0 then Ev.enc o else []
theorem own_some {w : World} {base n c : Nat} {e : TypeId} {A : Option Addr} {xs : List Value} (h : w.ownsRow base e 1 (.slice A n c) n xs) (h0 : 0 < n) : ∃ g, A = some ⟨g, 0, none⟩ ∧ ∀ j u, xs[j]? = some u → w.cell? ((⟨g, 0, none⟩ : Addr).add j) = some u := by
  obtain ⟨g, cap, hv, hc, hlt⟩ := h.form h0
  injection hv with hv
  subst hv
  exact ⟨g, rfl, h.cells (g := g) rfl⟩
theorem below_lit {w w1 : World} (o : Obj) (h : Below (w.alloc o).heap.size (w.alloc o) w1) : Below w.heap.size w w1 := ((Below.refl _ _).alloc (Nat.le_refl _) o).trans (h.mono (by simp))
theorem Ev.enc_one (s : ByteArray) (t v : Int) : Ev.enc ⟨1, s, t, v⟩ = 1 :: (Pk.tx (nums s) ++ (Pk.be 8 (Ev.u64 t) ++ Pk.be 8 (Ev.u64 v))) := rfl
theorem Ev.enc_len_one (s : ByteArray) (t v : Int) : (Ev.enc ⟨1, s, t, v⟩).length = s.size + 19 := by
  rw [Ev.enc_one]
  simp [Pk.tx, Pk.be_len, nums_len]
  omega
theorem Ev.right_zero {o : Evo} (h : Ev.right o = 0) : (o.k = 1 ∧ 1 ≤ o.s.size ∧ o.s.size ≤ 32 ∨ o.k = 2 ∧ o.s.size = 0 ∧ o.v = 0) ∧ -1099511627776 ≤ o.t ∧ o.t ≤ 1099511627776 := by
  unfold Ev.right at h
  split at h
  · omega
  split at h
  · omega
  split at h
  · omega
  omega
theorem Ev.u8s_cons (x : Nat) (l : List Nat) : u8s (x :: l) = u8s [x] ++ u8s l := rfl
set_option maxRecDepth 100000 in
set_option maxHeartbeats 4000000 in
theorem refPut6_any (o : Evo) (w : World) : Calls Try.prog 14 #[.agg #[.int .u8 (o.k : Int), .string o.s, .int .i64 o.t, .int .i64 o.v]] w (PutB w (Ev.bytes o) (Ev.right o)) := by
  obtain ⟨i0, hi, hz0, hz1, hz2⟩ := info_parts Try.info5
  have HI := Lib.hid (And.intro hi (And.intro hz0 (And.intro hz1 hz2)))
  clear hi hz0 hz1 hz2
  have hbk := Blk.new w 27 #[.int .u8 (o.k : Int), .string o.s, .int .i64 o.t, .int .i64 o.v]
  have hbe : Below w.heap.size w (w.alloc (.cells #[.int .u8 (o.k : Int), .string o.s, .int .i64 o.t, .int .i64 o.v] 27)) := (Below.refl _ _).alloc (Nat.le_refl _) _
  obtain ⟨w0, hw0⟩ : ∃ w0, w.alloc (.cells #[.int .u8 (o.k : Int), .string o.s, .int .i64 o.t, .int .i64 o.v] 27) = w0 := ⟨_, rfl⟩
  rw [hw0] at hbk hbe
  have HZ : Hid (∀ W, Below w0.heap.size w0 W → W.cell? ⟨w.heap.size, 0, none⟩ = some (.int .u8 (o.k : Int)) ∧ W.cell? ⟨w.heap.size, 1, none⟩ = some (.string o.s) ∧ W.cell? ⟨w.heap.size, 2, none⟩ = some (.int .i64 o.t) ∧ W.cell? ⟨w.heap.size, 3, none⟩ = some (.int .i64 o.v)) := Lib.hid fun W hW => by
    have hb := hbk.below hW hbk.lt
    exact ⟨hb.cell 0, hb.cell 1, hb.cell 2, hb.cell 3⟩
  obtain ⟨c0, c1, c2, c3⟩ := HZ.out w0 (Below.refl _ _)
  have HB := Lib.hid hbe
  clear hbk hbe
  go_enter Try.func14, Try.ntmps14
  go_wp2_with fail
  clear hw0 c0 c1 c2 c3
  refine (refRight6_any o w0).mono ?_
  rintro e w1 ⟨rfl, b1⟩
  have E1 := Lib.hid b1
  clear b1
  by_cases hr : Ev.right o = 0
  · have hb : Ev.bytes o = Ev.enc o := if_pos hr
    have hz := Ev.right_zero hr
    have HRB := Lib.hid (And.intro hr hb)
    rw [hr]
    clear hr hb
    obtain ⟨c0, c1, c2, c3⟩ := HZ.out w1 E1.out
    obtain ⟨k, s, t, v⟩ := o
    dsimp only at c0 c1 c2 c3 hz
    rcases hz.1 with ⟨rfl, h1, h2⟩ | ⟨rfl, h1, h2⟩
    · clear hz
      have own2 : (w1.alloc (.cells #[.int .u8 1] 5)).ownsRow w0.heap.size 5 1 (.slice (some ⟨w1.heap.size, 0, none⟩) 1 1) 1 (u8s [1]) := World.ownsRow_lit w1 #[.int .u8 1] 1 E1.out.size (by decide) rfl
      have E2 := Lib.hid (E1.out.trans (((Below.refl w1.heap.size w1).alloc (Nat.le_refl _) (.cells #[.int .u8 1] 5)).mono E1.out.size))
      obtain ⟨W2, hW2⟩ : ∃ W, w1.alloc (.cells #[.int .u8 1] 5) = W := ⟨_, rfl⟩
      rw [hW2] at own2 E2
      have O2 := Lib.hid own2
      clear own2 c0 c1 c2 c3
      obtain ⟨c0, c1, c2, c3⟩ := HZ.out w1 E1.out
      rw [show ((1 : Nat) : Int) = 1 from rfl] at c0
      obtain ⟨e0, e1, e2, e3⟩ := HZ.out W2 E2.out
      rw [show ((1 : Nat) : Int) = 1 from rfl] at e0
      go_wp2_with fail
      clear hW2 e0 e1 e2 e3 c0 c1 c2 c3
      refine (refText_any s W2 (by omega)).mono ?_
      rintro e w3 ⟨A3, c3, rfl, ho3, b3⟩
      obtain ⟨g3, rfl, hc⟩ := own_some ho3 (by omega)
      have E3 := Lib.hid (E2.out.trans (b3.mono E2.out.size))
      have O3 := Lib.hid (own_below O2.out b3)
      have hl : (u8s (Pk.tx (nums s))).length = (s.size + 2) * 1 := by rw [u8s_len, Pk.tx, List.length_append, Pk.be_len, nums_len]; omega
      have hz := E3.out.size
      obtain ⟨e0, e1, e2, e3⟩ := HZ.out w3 E3.out
      rw [show ((1 : Nat) : Int) = 1 from rfl] at e0
      clear ho3 b3
      go_upto_region 8 with (at_builtin; refine wpList_append_own _ rfl _ _ 29 rfl w0.heap.size 5 i0 (.int .u8 0) 1 1 Try.underlying29 HI.out.1 HI.out.2.1 HI.out.2.2.1 HI.out.2.2.2 rfl (by decide) _ (1) _ rfl O3.out ⟨g3, 0, none⟩ (s.size + 2) c3 (u8s (Pk.tx (nums s))) rfl hl hc (u8s_one _) (by unfold maxLen; omega) (by omega) hz ?_; intro v' w' hown hgrow _)
      clear e0 e1 e2 e3 hl hc hz
      rw [u8s_append] at hown
      obtain ⟨A4, c4, rfl⟩ := own_slice hown
      have E4 := Lib.hid (grow_own E3.out O3.out (Nat.le_refl _) hgrow)
      have O4 := Lib.hid hown
      clear hown hgrow
      rename World => W4
      obtain ⟨e0, e1, e2, e3⟩ := HZ.out W4 E4.out
      rw [show ((1 : Nat) : Int) = 1 from rfl] at e0
      go_wp2_with fail
      clear e0 e1 e2 e3
      refine (refInt_any t (Ev.u64 t) W4 (Ev.u64_is t) (Ev.u64_lt t)).mono ?_
      rintro e v5 ⟨A5, c5, rfl, ho, bb⟩
      obtain ⟨g5, rfl, hc⟩ := own_some ho (by omega)
      have F5 := Lib.hid (E4.out.trans (bb.mono E4.out.size))
      have P5 := Lib.hid (own_below O4.out bb)
      have hl : (u8s (Pk.be 8 (Ev.u64 t))).length = 8 * 1 := by rw [u8s_len, Pk.be_len]
      have hz := F5.out.size
      obtain ⟨e0, e1, e2, e3⟩ := HZ.out v5 F5.out
      rw [show ((1 : Nat) : Int) = 1 from rfl] at e0
      clear ho bb
      go_upto_region 9 with (at_builtin; refine wpList_append_own _ rfl _ _ 29 rfl w0.heap.size 5 i0 (.int .u8 0) 1 1 Try.underlying29 HI.out.1 HI.out.2.1 HI.out.2.2.1 HI.out.2.2.2 rfl (by decide) _ (1 + (s.size + 2)) _ rfl P5.out ⟨g5, 0, none⟩ 8 c5 (u8s (Pk.be 8 (Ev.u64 t))) rfl hl hc (u8s_one _) (by unfold maxLen; omega) (by omega) hz ?_; intro v' w' hown hgrow _)
      clear e0 e1 e2 e3 hl hc hz
      rw [u8s_append] at hown
      obtain ⟨B5, d5, rfl⟩ := own_slice hown
      have G5 := Lib.hid (grow_own F5.out P5.out (Nat.le_refl _) hgrow)
      have Q5 := Lib.hid hown
      clear hown hgrow
      rename World => V5
      obtain ⟨e0, e1, e2, e3⟩ := HZ.out V5 G5.out
      rw [show ((1 : Nat) : Int) = 1 from rfl] at e0
      go_wp2_with fail
      clear e0 e1 e2 e3
      refine (refInt_any v (Ev.u64 v) V5 (Ev.u64_is v) (Ev.u64_lt v)).mono ?_
      rintro e v6 ⟨A6, c6, rfl, ho, bb⟩
      obtain ⟨g6, rfl, hc⟩ := own_some ho (by omega)
      have F6 := Lib.hid (G5.out.trans (bb.mono G5.out.size))
      have P6 := Lib.hid (own_below Q5.out bb)
      have hl : (u8s (Pk.be 8 (Ev.u64 v))).length = 8 * 1 := by rw [u8s_len, Pk.be_len]
      have hz := F6.out.size
      obtain ⟨e0, e1, e2, e3⟩ := HZ.out v6 F6.out
      rw [show ((1 : Nat) : Int) = 1 from rfl] at e0
      clear ho bb
      go_wp2_with (at_builtin; refine wpList_append_own _ rfl _ _ 29 rfl w0.heap.size 5 i0 (.int .u8 0) 1 1 Try.underlying29 HI.out.1 HI.out.2.1 HI.out.2.2.1 HI.out.2.2.2 rfl (by decide) _ (1 + (s.size + 2) + 8) _ rfl P6.out ⟨g6, 0, none⟩ 8 c6 (u8s (Pk.be 8 (Ev.u64 v))) rfl hl hc (u8s_one _) (by unfold maxLen; omega) (by omega) hz ?_; intro v' w' hown hgrow _)
      clear e0 e1 e2 e3 hl hc hz
      rw [u8s_append] at hown
      obtain ⟨B6, d6, rfl⟩ := own_slice hown
      have G6 := Lib.hid (grow_own F6.out P6.out (Nat.le_refl _) hgrow)
      have Q6 := Lib.hid hown
      clear hown hgrow
      rename World => V6
      go_ret2
      first | rw [HRB.out.1, HRB.out.2] | rw [HRB.out.2] | rw [HRB.out.1] | skip
      have hl := Ev.enc_len_one s t v
      have hown := Q6.out
      rw [show ([1] ++ Pk.tx (nums s) ++ Pk.be 8 (Ev.u64 t) ++ Pk.be 8 (Ev.u64 v)) = Ev.enc ⟨1, s, t, v⟩ by rw [Ev.enc_one]; simp, show 1 + (s.size + 2) + 8 + 8 = (Ev.enc ⟨1, s, t, v⟩).length by rw [hl]; omega] at hown
      rw [show 1 + (s.size + 2) + 8 + 8 = (Ev.enc ⟨1, s, t, v⟩).length by rw [hl]; omega]
      exact ⟨_, _, rfl, own_lower hown HB.out.size, HB.out.trans (G6.out.mono HB.out.size)⟩
    · clear hz
      have own2 : (w1.alloc (.cells #[.int .u8 2] 5)).ownsRow w0.heap.size 5 1 (.slice (some ⟨w1.heap.size, 0, none⟩) 1 1) 1 (u8s [2]) := World.ownsRow_lit w1 #[.int .u8 2] 1 E1.out.size (by decide) rfl
      have E2 := Lib.hid (E1.out.trans (((Below.refl w1.heap.size w1).alloc (Nat.le_refl _) (.cells #[.int .u8 2] 5)).mono E1.out.size))
      obtain ⟨W2, hW2⟩ : ∃ W, w1.alloc (.cells #[.int .u8 2] 5) = W := ⟨_, rfl⟩
      rw [hW2] at own2 E2
      have O2 := Lib.hid own2
      clear own2 c0 c1 c2 c3
      obtain ⟨c0, c1, c2, c3⟩ := HZ.out w1 E1.out
      rw [show ((2 : Nat) : Int) = 2 from rfl] at c0
      obtain ⟨e0, e1, e2, e3⟩ := HZ.out W2 E2.out
      rw [show ((2 : Nat) : Int) = 2 from rfl] at e0
      go_wp2_with fail
      clear hW2 e0 e1 e2 e3 c0 c1 c2 c3
      refine (refInt_any t (Ev.u64 t) W2 (Ev.u64_is t) (Ev.u64_lt t)).mono ?_
      rintro e v5 ⟨A5, c5, rfl, ho, bb⟩
      obtain ⟨g5, rfl, hc⟩ := own_some ho (by omega)
      have F5 := Lib.hid (E2.out.trans (bb.mono E2.out.size))
      have P5 := Lib.hid (own_below O2.out bb)
      have hl : (u8s (Pk.be 8 (Ev.u64 t))).length = 8 * 1 := by rw [u8s_len, Pk.be_len]
      have hz := F5.out.size
      obtain ⟨e0, e1, e2, e3⟩ := HZ.out v5 F5.out
      rw [show ((2 : Nat) : Int) = 2 from rfl] at e0
      clear ho bb
      go_wp2_with (at_builtin; refine wpList_append_own _ rfl _ _ 29 rfl w0.heap.size 5 i0 (.int .u8 0) 1 1 Try.underlying29 HI.out.1 HI.out.2.1 HI.out.2.2.1 HI.out.2.2.2 rfl (by decide) _ (1) _ rfl P5.out ⟨g5, 0, none⟩ 8 c5 (u8s (Pk.be 8 (Ev.u64 t))) rfl hl hc (u8s_one _) (by unfold maxLen; omega) (by omega) hz ?_; intro v' w' hown hgrow _)
      clear e0 e1 e2 e3 hl hc hz
      rw [u8s_append] at hown
      obtain ⟨B5, d5, rfl⟩ := own_slice hown
      have G5 := Lib.hid (grow_own F5.out P5.out (Nat.le_refl _) hgrow)
      have Q5 := Lib.hid hown
      clear hown hgrow
      rename World => V5
      go_ret2
      first | rw [HRB.out.1, HRB.out.2] | rw [HRB.out.2] | rw [HRB.out.1] | skip
      have hown := Q5.out
      exact ⟨_, _, rfl, own_lower hown HB.out.size, HB.out.trans (G5.out.mono HB.out.size)⟩
  · have hb : Ev.bytes o = [] := if_neg hr
    have HRB := Lib.hid hb
    have i1 : (Ev.right o != 0) = true := by rw [bne_iff_ne]; exact hr
    have i2 : (Ev.right o == 0) = false := by rw [beq_eq_false_iff_ne]; exact hr
    clear hb
    go_wp2_with fail
    go_ret2
    rw [HRB.out]
    exact ⟨none, 0, rfl, own_nil _ _ _ _, HB.out.trans (E1.out.mono HB.out.size)⟩
end Go.Proofs.Ytbcdacfmhjgfiaa
