/- Layer 5, the program: Sort, Same. -/
import Derived.Test.YtaahlepgmcgcfaaAgV
import Derived.Laws.StructEq
import Derived.Laws.EntriesVeiled
namespace Go.Proofs.Ytaahlepgmcgcfaa
open Go.ChangeShapes Go.WideShapes Go.ChangeAt Go.RowKit

set_option maxRecDepth 100000 in
set_option maxHeartbeats 1000000 in
theorem sort_any (second : Bool) (n c B : Nat) (A : Option Addr) (l : List Rw) (w : World) (h : RowsIn w B A n l) (hB : B ≤ w.heap.size) (hn : n ≤ 20) :
    Calls Try.prog 9 #[.bool second, .slice A n c] w (NewRows w n (srt (rord second) l n)) := by
  have hbe : ∀ o, Below w.heap.size w (w.alloc o) := fun o => (Below.refl _ _).alloc (Nat.le_refl _) _
  have HB := Lib.hid hbe
  have HA := Lib.hid (fun o => h.alloc hB o)
  have HH := Lib.hid hB
  clear h hB hbe
  cases second
  · have HS := Lib.hid (fun W hW => sorted_any false n c B A l W hW)
    unfold ordF at HS
    go_enter Try.func9, Try.ntmps9
    go_wp2_with (go_at_call 28; refine (HS.out _ (HA.out _) (by have := HH.out; simp; omega) hn).mono ?_; rintro e w1 ⟨A1, c1, rfl, hc1, hr1, b1⟩; have H1 := Lib.hid (And.intro hc1 (And.intro hr1 b1)); clear hc1 hr1 b1)
    go_ret
    exact ⟨A1, c1, rfl, H1.out.1, fun h0 => (H1.out.2.1 h0).imp fun g hg => ⟨hg.1, by have := hg.2.1; simp at this; omega, hg.2.2⟩, (HB.out _).trans (H1.out.2.2.mono (by simp))⟩
  · have HS := Lib.hid (fun W hW => sorted_any true n c B A l W hW)
    unfold ordF at HS
    go_enter Try.func9, Try.ntmps9
    go_wp2_with (go_at_call 28; refine (HS.out _ (HA.out _) (by have := HH.out; simp; omega) hn).mono ?_; rintro e w1 ⟨A1, c1, rfl, hc1, hr1, b1⟩; have H1 := Lib.hid (And.intro hc1 (And.intro hr1 b1)); clear hc1 hr1 b1)
    go_ret
    exact ⟨A1, c1, rfl, H1.out.1, fun h0 => (H1.out.2.1 h0).imp fun g hg => ⟨hg.1, by have := hg.2.1; simp at this; omega, hg.2.2⟩, (HB.out _).trans (H1.out.2.2.mono (by simp))⟩
theorem prow_guard : Try.prog.eqGuardType Try.prog.depth 35 = false := by kernel_rfl
def reqB (r q : Rw) : Bool := r.p.k.toList == q.p.k.toList && r.p.s == q.p.s && r.p.e == q.p.e && (r.a.c == q.a.c && r.a.s == q.a.s && r.a.lo == q.a.lo && r.a.hi == q.a.hi)
theorem prow_equal (r q : Rw) (w : World) : (Op.equalIn 10000 35 (rowV r) (rowV q)).run Try.prog w = .ok (reqB r q) w := by
  have hS : Try.prog.underlying 35 = some (.struct (Try.prog.fieldsOf 35)) := by kernel_rfl
  have hp : Try.prog.stoodInHeld 35 = false := by kernel_rfl
  unfold rowV
  rw [show (10000 : Nat) = 9999 + 1 from rfl, run_equalIn_agg w 9999 35 _ _ hS hp]
  simp only [Program.fieldsOf, Try.underlying35]
  go_simp
  unfold reqB
  (repeat' split) <;> simp [*]
theorem prow_same (r q : Rw) (w : World) : (Op.equalIn 10000 35 (.agg #[.string r.p.k, .int .i64 r.p.s, .int .i64 r.p.e, .int .i64 r.a.c, .int .i64 r.a.s, .int .i64 r.a.lo, .int .i64 r.a.hi]) (.agg #[.string q.p.k, .int .i64 q.p.s, .int .i64 q.p.e, .int .i64 q.a.c, .int .i64 q.a.s, .int .i64 q.a.lo, .int .i64 q.a.hi])).run Try.prog w = .ok (reqB r q) w := prow_equal r q w
theorem reqB_iff (r q : Rw) : reqB r q = true ↔ r = q := by
  obtain ⟨⟨k, s, e⟩, ⟨c, t, lo, hi⟩⟩ := r
  obtain ⟨⟨k', s', e'⟩, ⟨c', t', lo', hi'⟩⟩ := q
  simp only [reqB, Rw.mk.injEq, Pn.mk.injEq, Ag.A.mk.injEq, Bool.and_eq_true, beq_iff_eq]
  constructor
  · rintro ⟨⟨⟨h1, h2⟩, h3⟩, ⟨⟨h4, h5⟩, h6⟩, h7⟩
    have hk : k = k' := by
      rw [ByteArray.toList_eq, ByteArray.toList_eq] at h1
      exact ByteArray.ext (Array.ext' h1)
    exact ⟨⟨hk, h2, h3⟩, h4, h5, h6, h7⟩
  · rintro ⟨⟨h1, h2, h3⟩, h4, h5, h6, h7⟩
    exact ⟨⟨⟨by rw [h1], h2⟩, h3⟩, ⟨⟨h4, h5⟩, h6⟩, h7⟩
/-- Are rows the same, one by one? -/
def rsame : List Rw → List Rw → Bool
  | [], [] => true
  | r :: a, q :: b => reqB r q && rsame a b
  | _, _ => false
theorem rsame_iff (a b : List Rw) : rsame a b = true ↔ a = b := by
  induction a generalizing b with
  | nil => cases b <;> simp [rsame]
  | cons r a ih => cases b with
    | nil => simp [rsame]
    | cons q b => simp only [rsame, Bool.and_eq_true, reqB_iff, ih, List.cons.injEq]
theorem rsame_len {a b : List Rw} (h : a.length ≠ b.length) : rsame a b = false := by
  rw [Bool.eq_false_iff]
  intro e
  exact h (congrArg List.length ((rsame_iff a b).1 e))
theorem rsame_drop {a b : List Rw} {j : Nat} (ha : j < a.length) (hb : j < b.length) : rsame (a.drop j) (b.drop j) = (reqB (a.getD j default) (b.getD j default) && rsame (a.drop (j + 1)) (b.drop (j + 1))) := by
  rw [List.drop_eq_getElem_cons ha, List.drop_eq_getElem_cons hb, List.getD_eq_getElem?_getD, List.getElem?_eq_getElem ha, List.getD_eq_getElem?_getD, List.getElem?_eq_getElem hb]
  rfl
theorem RowsIn.at_ {w : World} {B n : Nat} {A : Option Addr} {l : List Rw} (h : RowsIn w B A n l) {i : Nat} (hi : i < n) : ∃ b off, A = some ⟨b, off, none⟩ ∧ b < B ∧ ∀ r, l.getD i default = r → w.cell? ⟨b, off + i * 7, none⟩ = some (.string r.p.k) ∧ w.cell? ⟨b, off + i * 7 + 1, none⟩ = some (.int .i64 r.p.s) ∧ w.cell? ⟨b, off + i * 7 + 2, none⟩ = some (.int .i64 r.p.e) ∧ w.cell? ⟨b, off + i * 7 + 3, none⟩ = some (.int .i64 r.a.c) ∧ w.cell? ⟨b, off + i * 7 + 4, none⟩ = some (.int .i64 r.a.s) ∧ w.cell? ⟨b, off + i * 7 + 5, none⟩ = some (.int .i64 r.a.lo) ∧ w.cell? ⟨b, off + i * 7 + 6, none⟩ = some (.int .i64 r.a.hi) := by
  obtain ⟨b, off, e, hb, hc⟩ := h.2 (by omega)
  refine ⟨b, off, e, hb, fun r hr => ?_⟩
  subst hr
  exact ⟨hc i hi 0 (by omega), hc i hi 1 (by omega), hc i hi 2 (by omega), hc i hi 3 (by omega), hc i hi 4 (by omega), hc i hi 5 (by omega), hc i hi 6 (by omega)⟩
/-- Only draws: the memory is as it was. -/
def Drew (w w' : World) : Prop := ∃ m, w' = w.drewN m
theorem drew_more (w : World) (m k : Nat) : Drew w ((w.drewN m).drewN k) := ⟨m + k, by unfold World.drewN; simp; omega⟩
set_option maxRecDepth 100000 in
set_option maxHeartbeats 2000000 in
theorem equal_any (n c n2 c2 B : Nat) (A A2 : Option Addr) (l l2 : List Rw) (w : World) (h : RowsIn w B A n l) (h2 : RowsIn w B A2 n2 l2) (hn : n ≤ 1000) (hn2 : n2 ≤ 1000) :
    Calls Try.prog 33 #[.slice A n c, .slice A2 n2 c2] w fun e w' => e = .returned (.bool (rsame l l2)) ∧ Drew w w' := by
  have g1 := prow_guard
  by_cases hne : n = n2
  · subst hne
    have HP := Lib.hid (And.intro h h2)
    clear h h2
    go_enter Try.func33, Try.ntmps33
    go_wp2_with fail
    go_loopw [13] (fun i wr => ∃ j : Nat, j ≤ n ∧ i = .int .i64 (j : Int) ∧ rsame (l.drop j) (l2.drop j) = rsame l l2 ∧ Drew w wr) (fun i _ => n - (intOf i).toNat)
    case atStart => exact ⟨0, by omega, rfl, rfl, 0, rfl⟩
    case round =>
      obtain ⟨j, hj, rfl, hr, m, rfl⟩ := hrel
      by_cases hlt : j < n
      · obtain ⟨b, off, rfl, hb, hc⟩ := HP.out.1.at_ hlt
        obtain ⟨b2, off2, rfl, hb2, hc2⟩ := HP.out.2.at_ hlt
        have hd := rsame_drop (a := l) (b := l2) (j := j) (by rw [HP.out.1.1]; exact hlt) (by rw [HP.out.2.1]; exact hlt)
        obtain ⟨x, hx⟩ : ∃ x, l.getD j default = x := ⟨_, rfl⟩
        obtain ⟨y, hy⟩ : ∃ y, l2.getD j default = y := ⟨_, rfl⟩
        obtain ⟨x0, x1, x2, x3, x4, x5, x6⟩ := hc x hx
        obtain ⟨y0, y1, y2, y3, y4, y5, y6⟩ := hc2 y hy
        rw [hx, hy, hr] at hd
        have q1 := fun W => prow_same x y W
        have i1 : (0 : Int) ≤ j := by omega
        have i2 : (j : Int) < n := by omega
        clear hx hy hc hc2 hr
        cases hq : reqB x y
        · rw [hq, Bool.false_and] at hd
          rw [hq] at q1
          have HD := Lib.hid hd
          clear hd hq
          go_wp2_with fail
          go_quiet (fail)
          go_wp2_with fail
          go_ret
          exact ⟨by rw [HD.out]; rfl, drew_more _ _ _⟩
        · rw [hq, Bool.true_and] at hd
          rw [hq] at q1
          have HD := Lib.hid hd
          clear hd hq
          go_wp2_with fail
          go_quiet (fail)
          go_wp2_with fail
          go_roundw
          case rel => exact ⟨j + 1, by omega, by go_num, HD.out.symm, _, rfl⟩
          case measure => simp [intOf]; omega
      · obtain rfl : j = n := by omega
        have e1 : l.drop j = [] := List.drop_eq_nil_of_le (by rw [HP.out.1.1]; exact Nat.le_refl _)
        have e2 : l2.drop j = [] := List.drop_eq_nil_of_le (by rw [HP.out.2.1]; exact Nat.le_refl _)
        rw [e1, e2] at hr
        have HR := Lib.hid hr
        clear hr e1 e2
        go_wp2_with fail
        go_ret
        exact ⟨by rw [← HR.out]; rfl, _, rfl⟩
  · have e : rsame l l2 = false := rsame_len (by rw [h.1, h2.1]; exact hne)
    rw [e]
    have i1 : ((n : Int) != n2) = true := by
      rw [bne_iff_ne]; omega
    have i2 : (n != n2) = true := by rw [bne_iff_ne]; exact hne
    have i3 : decide (n = n2) = false := decide_eq_false hne
    clear h h2 e
    go_enter Try.func33, Try.ntmps33
    go_wp2_with fail
    go_ret
    exact ⟨rfl, 0, rfl⟩
set_option maxHeartbeats 1000000 in
theorem same_any (n c n2 c2 B : Nat) (A A2 : Option Addr) (l l2 : List Rw) (w : World) (h : RowsIn w B A n l) (h2 : RowsIn w B A2 n2 l2) (hn : n ≤ 1000) (hn2 : n2 ≤ 1000) :
    Calls Try.prog 17 #[.slice A n c, .slice A2 n2 c2] w fun e w' => e = .returned (.bool (rsame l l2)) ∧ Drew w w' := by
  have HE := Lib.hid (equal_any n c n2 c2 B A A2 l l2 w h h2 hn hn2)
  clear h h2
  go_enter Try.func17, Try.ntmps17
  go_wp2_with (go_at_call 33; (with_reducible refine HE.out.mono ?_); rintro e w1 ⟨rfl, m, rfl⟩)
  go_ret
  exact ⟨rfl, m, rfl⟩
end Go.Proofs.Ytaahlepgmcgcfaa
