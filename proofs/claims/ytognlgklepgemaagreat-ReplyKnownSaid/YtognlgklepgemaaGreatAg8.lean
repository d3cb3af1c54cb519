/- Layer 5, the program, as stage 8 leans on it (made by tools/slice.py). -/
import Derived.Test.YtognlgklepgemaaGreatRefRi
import Derived.Test.YtognlgklepgemaaGreatRwB
import Derived.Test.YtognlgklepgemaaGreatHeld
import Derived.Laws.StructEq
import Derived.WalkLawsBesides
import Derived.BigRegion
import Derived.Laws.EntriesVeiled
namespace Go.Proofs.YtognlgklepgemaaGreat
open Go.ChangeShapes Go.WideShapes Go.ChangeAt Go.RowKit

def aggV (a : Ag.A) : Value := .agg #[.int .i64 a.c, .int .i64 a.s, .int .i64 a.lo, .int .i64 a.hi]
theorem pagg_guard : Tryz.prog.eqGuardType Tryz.prog.depth 47 = false := by kernel_rfl
theorem pagg_equal (a b c d a' b' c' d' : Int) (w : World) : (Op.equalIn 10000 47 (.agg #[.int .i64 a, .int .i64 b, .int .i64 c, .int .i64 d]) (.agg #[.int .i64 a', .int .i64 b', .int .i64 c', .int .i64 d'])).run Tryz.prog w = .ok (a == a' && b == b' && c == c' && d == d') w := by
  have hS : Tryz.prog.underlying 47 = some (.struct (Tryz.prog.fieldsOf 47)) := by kernel_rfl
  have hp : Tryz.prog.stoodInHeld 47 = false := by kernel_rfl
  rw [show (10000 : Nat) = 9999 + 1 from rfl, run_equalIn_agg w 9999 47 _ _ hS hp]
  simp only [Program.fieldsOf, Tryz.underlying47]
  go_simp
  by_cases h1 : a = a' <;> by_cases h2 : b = b' <;> by_cases h3 : c = c' <;> by_cases h4 : d = d' <;> simp [h1, h2, h3, h4]
theorem pagg_blank (x : Ag.A) (w : World) : (Op.equalIn 10000 47 (.agg #[.int .i64 x.c, .int .i64 x.s, .int .i64 x.lo, .int .i64 x.hi]) (.agg #[.int .i64 0, .int .i64 0, .int .i64 0, .int .i64 0])).run Tryz.prog w = .ok (Ag.blank x) w := pagg_equal _ _ _ _ _ _ _ _ w
/-- Are two aggregates the same? -/
def aeq (a b : Ag.A) : Bool := a.c == b.c && a.s == b.s && a.lo == b.lo && a.hi == b.hi
theorem pagg_same (a b : Ag.A) (w : World) : (Op.equalIn 10000 47 (.agg #[.int .i64 a.c, .int .i64 a.s, .int .i64 a.lo, .int .i64 a.hi]) (.agg #[.int .i64 b.c, .int .i64 b.s, .int .i64 b.lo, .int .i64 b.hi])).run Tryz.prog w = .ok (aeq a b) w := pagg_equal _ _ _ _ _ _ _ _ w
def AggR (w : World) (a : Ag.A) (e : Ending) (w' : World) : Prop := e = .returned (aggV a) ∧ Below w.heap.size w w'
set_option maxHeartbeats 400000 in
theorem one_any (v : Int) (w : World) : Calls Tryz.prog 84 #[.int .i64 v] w (AggR w (Ag.one v)) := by
  have hbe : ∀ o, Below w.heap.size w (w.alloc o) := fun o => (Below.refl _ _).alloc (Nat.le_refl _) _
  have HB := Lib.hid hbe
  clear hbe
  go_enter Tryz.func84, Tryz.ntmps84
  go_wp2_with fail
  refine bodyPost_ret (v := aggV (Ag.one v)) ?_ rfl ⟨rfl, ?_⟩
  · simp [results, Tryz.results84, go_sem, aggV, Ag.one]
  · exact HB.out _
set_option maxHeartbeats 400000 in
theorem blank_any (x : Ag.A) (w : World) : Calls Tryz.prog 72 #[.agg #[.int .i64 x.c, .int .i64 x.s, .int .i64 x.lo, .int .i64 x.hi]] w fun e w' => e = .returned (.bool (Ag.blank x)) ∧ Below w.heap.size w w' := by
  have hb : ∀ (o : Obj), Below w.heap.size w (w.alloc o) := fun o => (Below.refl _ _).alloc (Nat.le_refl _) _
  have HB := Lib.hid hb
  clear hb
  have q1 := fun W => pagg_blank x W
  have g1 := pagg_guard
  go_enter Tryz.func72, Tryz.ntmps72
  go_wp2_with fail
  go_ret
  exact ⟨rfl, HB.out _⟩
theorem right_of_one {a b c : Int} : Ag.right ⟨1, a, b, c⟩ = aeq ⟨1, a, b, c⟩ (Ag.one a) := by
  have hb : Ag.blank ⟨1, a, b, c⟩ = false := rfl
  unfold Ag.right aeq Ag.one
  rw [hb, Bool.false_or, if_pos (by rfl), show ((1 : Int) == 1) = true from rfl, show (a == a) = true by simp]
  rw [Bool.eq_iff_iff]
  simp
  constructor <;> rintro ⟨h1, h2⟩ <;> subst h1 <;> subst h2 <;> simp
set_option maxRecDepth 100000 in
set_option maxHeartbeats 1000000 in
theorem right_any (x : Ag.A) (w : World) : Calls Tryz.prog 73 #[.agg #[.int .i64 x.c, .int .i64 x.s, .int .i64 x.lo, .int .i64 x.hi]] w fun e w' => e = .returned (.bool (Ag.right x)) ∧ Below w.heap.size w w' := by
  obtain ⟨c, s, lo, hi⟩ := x
  dsimp only
  have hbk := Blk.new w 47 #[.int .i64 c, .int .i64 s, .int .i64 lo, .int .i64 hi]
  have hbe : Below w.heap.size w (w.alloc (.cells #[.int .i64 c, .int .i64 s, .int .i64 lo, .int .i64 hi] 47)) := (Below.refl _ _).alloc (Nat.le_refl _) _
  by_cases h1 : c = 1
  · subst h1
    rw [right_of_one]
    have q1 := fun W => pagg_same ⟨1, s, lo, hi⟩ (Ag.one s) W
    have g1 := pagg_guard
    dsimp only [Ag.one] at q1
    obtain ⟨r, hr⟩ : ∃ r, aeq ⟨1, s, lo, hi⟩ (Ag.one s) = r := ⟨_, rfl⟩
    rw [show aeq ⟨1, s, lo, hi⟩ ⟨1, s, s, s⟩ = r from hr] at q1
    rw [hr]
    clear hr
    obtain ⟨w0, hw0⟩ : ∃ w0, w.alloc (.cells #[.int .i64 1, .int .i64 s, .int .i64 lo, .int .i64 hi] 47) = w0 := ⟨_, rfl⟩
    have hz : (w.alloc (.cells #[.int .i64 1, .int .i64 s, .int .i64 lo, .int .i64 hi] 47)).heap.size = w.heap.size + 1 := by simp
    rw [hw0] at hbk hbe hz
    have HC : Hid (∀ W, Below w0.heap.size w0 W → W.cell? ⟨w.heap.size, 0, none⟩ = some (.int .i64 1) ∧ W.cell? ⟨w.heap.size, 1, none⟩ = some (.int .i64 s) ∧ W.cell? ⟨w.heap.size, 2, none⟩ = some (.int .i64 lo) ∧ W.cell? ⟨w.heap.size, 3, none⟩ = some (.int .i64 hi)) := Lib.hid fun W hW => by
      have hb := hbk.below hW (by omega)
      exact ⟨hb.cell 0, hb.cell 1, hb.cell 2, hb.cell 3⟩
    have HBE := Lib.hid hbe
    have D0 : Below w0.heap.size w0 w0.drew := (Below.refl _ _).drew
    have hc0 := hbk.cell 0
    clear hbk hbe hz
    go_enter Tryz.func73, Tryz.ntmps73
    go_wp2_with fail
    clear hw0 hc0
    go_region_held3 (fun W => W.cell? ⟨w.heap.size, 0, none⟩ = some (.int .i64 1) ∧ W.cell? ⟨w.heap.size, 1, none⟩ = some (.int .i64 s) ∧ W.cell? ⟨w.heap.size, 2, none⟩ = some (.int .i64 lo) ∧ W.cell? ⟨w.heap.size, 3, none⟩ = some (.int .i64 hi)) (first | exact HC.out _ D0 | exact HC.out _ D1) (first
      | (go_at_call 84; (refine (one_any _ _).mono ?_); rintro e w1 ⟨rfl, b1⟩; simp only [aggV, Ag.one]; have D1 := below_next D0 b1; clear D0 b1))
    go_wp2_with fail
    go_ret
    exact ⟨rfl, HBE.out.trans (D1.mono HBE.out.size)⟩
  · have HBE := Lib.hid hbe
    clear hbk hbe
    have h5 : (c == 1) = false := by rw [beq_eq_false_iff_ne]; exact h1
    by_cases h2 : 1 < c
    · have hb : Ag.blank ⟨c, s, lo, hi⟩ = false := by unfold Ag.blank; dsimp only; rw [show (c == 0) = false by rw [beq_eq_false_iff_ne]; omega]; simp
      have e : Ag.right ⟨c, s, lo, hi⟩ = decide (lo ≤ hi) := by
        unfold Ag.right
        rw [hb, Bool.false_or]
        dsimp only
        rw [h5, if_neg (by decide)]
        by_cases h : lo ≤ hi <;> simp [h, h2]
      rw [e]
      clear e hb h1
      by_cases h3 : lo ≤ hi
      · have d3 : decide (lo ≤ hi) = true := decide_eq_true h3
        rw [d3]
        go_enter Tryz.func73, Tryz.ntmps73
        go_wp2_with fail
        go_ret
        exact ⟨rfl, HBE.out⟩
      · have d3 : decide (lo ≤ hi) = false := decide_eq_false h3
        rw [d3]
        go_enter Tryz.func73, Tryz.ntmps73
        go_wp2_with fail
        go_ret
        exact ⟨rfl, HBE.out⟩
    · have e : Ag.right ⟨c, s, lo, hi⟩ = Ag.blank ⟨c, s, lo, hi⟩ := by
        unfold Ag.right
        dsimp only
        rw [h5, if_neg (by decide), show decide (1 < c ∧ lo ≤ hi) = false from decide_eq_false (fun h => h2 h.1), Bool.or_false]
      rw [e]
      clear e h1
      go_enter Tryz.func73, Tryz.ntmps73
      go_wp2_with (go_at_call 72; (with_reducible refine (blank_any ⟨c, s, lo, hi⟩ _).mono ?_); rintro e w1 ⟨rfl, b1⟩)
      go_ret
      exact ⟨rfl, HBE.out.trans (b1.mono HBE.out.size)⟩
def rowV (r : Rw) : Value := .agg #[.string r.p.k, .int .i64 r.p.s, .int .i64 r.p.e, .int .i64 r.a.c, .int .i64 r.a.s, .int .i64 r.a.lo, .int .i64 r.a.hi]
theorem prow_guard : Tryz.prog.eqGuardType Tryz.prog.depth 49 = false := by kernel_rfl
def reqB (r q : Rw) : Bool := r.p.k.toList == q.p.k.toList && r.p.s == q.p.s && r.p.e == q.p.e && (r.a.c == q.a.c && r.a.s == q.a.s && r.a.lo == q.a.lo && r.a.hi == q.a.hi)
theorem prow_equal (r q : Rw) (w : World) : (Op.equalIn 10000 49 (rowV r) (rowV q)).run Tryz.prog w = .ok (reqB r q) w := by
  have hS : Tryz.prog.underlying 49 = some (.struct (Tryz.prog.fieldsOf 49)) := by kernel_rfl
  have hp : Tryz.prog.stoodInHeld 49 = false := by kernel_rfl
  unfold rowV
  rw [show (10000 : Nat) = 9999 + 1 from rfl, run_equalIn_agg w 9999 49 _ _ hS hp]
  simp only [Program.fieldsOf, Tryz.underlying49]
  go_simp
  unfold reqB
  (repeat' split) <;> simp [*]
theorem prow_same (r q : Rw) (w : World) : (Op.equalIn 10000 49 (.agg #[.string r.p.k, .int .i64 r.p.s, .int .i64 r.p.e, .int .i64 r.a.c, .int .i64 r.a.s, .int .i64 r.a.lo, .int .i64 r.a.hi]) (.agg #[.string q.p.k, .int .i64 q.p.s, .int .i64 q.p.e, .int .i64 q.a.c, .int .i64 q.a.s, .int .i64 q.a.lo, .int .i64 q.a.hi])).run Tryz.prog w = .ok (reqB r q) w := prow_equal r q w
theorem reqB_iff (r q : Rw) : reqB r q = true ↔ r = q := by
  obtain ⟨⟨k, s, e⟩, ⟨c, t, lo, hi⟩⟩ := r
  obtain ⟨⟨k', s', e'⟩, ⟨c', t', lo', hi'⟩⟩ := q
  simp only [reqB, Rw.mk.injEq, Pn.mk.injEq, Ag.A.mk.injEq, Bool.and_eq_true, beq_iff_eq]
  constructor
  · rintro ⟨⟨⟨h1, h2⟩, h3⟩, ⟨⟨h4, h5⟩, h6⟩, h7⟩
    have hk : k = k' := by
      rw [ByteArray.toList_eq, ByteArray.toList_eq] at h1
      exact ByteArray.ext (Array.ext' h1)
    exact ⟨⟨hk, h2, h3⟩, h4, h5, h6, h7⟩
  · rintro ⟨⟨h1, h2, h3⟩, h4, h5, h6, h7⟩
    exact ⟨⟨⟨by rw [h1], h2⟩, h3⟩, ⟨⟨h4, h5⟩, h6⟩, h7⟩
/-- Are rows the same, one by one? -/
def rsame : List Rw → List Rw → Bool
  | [], [] => true
  | r :: a, q :: b => reqB r q && rsame a b
  | _, _ => false
theorem rsame_iff (a b : List Rw) : rsame a b = true ↔ a = b := by
  induction a generalizing b with
  | nil => cases b <;> simp [rsame]
  | cons r a ih => cases b with
    | nil => simp [rsame]
    | cons q b => simp only [rsame, Bool.and_eq_true, reqB_iff, ih, List.cons.injEq]
theorem rsame_len {a b : List Rw} (h : a.length ≠ b.length) : rsame a b = false := by
  rw [Bool.eq_false_iff]
  intro e
  exact h (congrArg List.length ((rsame_iff a b).1 e))
theorem rsame_drop {a b : List Rw} {j : Nat} (ha : j < a.length) (hb : j < b.length) : rsame (a.drop j) (b.drop j) = (reqB (a.getD j default) (b.getD j default) && rsame (a.drop (j + 1)) (b.drop (j + 1))) := by
  rw [List.drop_eq_getElem_cons ha, List.drop_eq_getElem_cons hb, List.getD_eq_getElem?_getD, List.getElem?_eq_getElem ha, List.getD_eq_getElem?_getD, List.getElem?_eq_getElem hb]
  rfl
theorem RowsIn.at_ {w : World} {B n : Nat} {A : Option Addr} {l : List Rw} (h : RowsIn w B A n l) {i : Nat} (hi : i < n) : ∃ b off, A = some ⟨b, off, none⟩ ∧ b < B ∧ ∀ r, l.getD i default = r → w.cell? ⟨b, off + i * 7, none⟩ = some (.string r.p.k) ∧ w.cell? ⟨b, off + i * 7 + 1, none⟩ = some (.int .i64 r.p.s) ∧ w.cell? ⟨b, off + i * 7 + 2, none⟩ = some (.int .i64 r.p.e) ∧ w.cell? ⟨b, off + i * 7 + 3, none⟩ = some (.int .i64 r.a.c) ∧ w.cell? ⟨b, off + i * 7 + 4, none⟩ = some (.int .i64 r.a.s) ∧ w.cell? ⟨b, off + i * 7 + 5, none⟩ = some (.int .i64 r.a.lo) ∧ w.cell? ⟨b, off + i * 7 + 6, none⟩ = some (.int .i64 r.a.hi) := by
  obtain ⟨b, off, e, hb, hc⟩ := h.2 (by omega)
  refine ⟨b, off, e, hb, fun r hr => ?_⟩
  subst hr
  exact ⟨hc i hi 0 (by omega), hc i hi 1 (by omega), hc i hi 2 (by omega), hc i hi 3 (by omega), hc i hi 4 (by omega), hc i hi 5 (by omega), hc i hi 6 (by omega)⟩
/-- Only draws: the memory is as it was. -/
def Drew (w w' : World) : Prop := ∃ m, w' = w.drewN m
theorem drew_more (w : World) (m k : Nat) : Drew w ((w.drewN m).drewN k) := ⟨m + k, by unfold World.drewN; simp; omega⟩
set_option maxRecDepth 100000 in
set_option maxHeartbeats 2000000 in
theorem equal_any (n c n2 c2 B : Nat) (A A2 : Option Addr) (l l2 : List Rw) (w : World) (h : RowsIn w B A n l) (h2 : RowsIn w B A2 n2 l2) (hn : n ≤ 1000) (hn2 : n2 ≤ 1000) :
    Calls Tryz.prog 75 #[.slice A n c, .slice A2 n2 c2] w fun e w' => e = .returned (.bool (rsame l l2)) ∧ Drew w w' := by
  have g1 := prow_guard
  by_cases hne : n = n2
  · subst hne
    have HP := Lib.hid (And.intro h h2)
    clear h h2
    go_enter Tryz.func75, Tryz.ntmps75
    go_wp2_with fail
    go_loopw [13] (fun i wr => ∃ j : Nat, j ≤ n ∧ i = .int .i64 (j : Int) ∧ rsame (l.drop j) (l2.drop j) = rsame l l2 ∧ Drew w wr) (fun i _ => n - (intOf i).toNat)
    case atStart => exact ⟨0, by omega, rfl, rfl, 0, rfl⟩
    case round =>
      obtain ⟨j, hj, rfl, hr, m, rfl⟩ := hrel
      by_cases hlt : j < n
      · obtain ⟨b, off, rfl, hb, hc⟩ := HP.out.1.at_ hlt
        obtain ⟨b2, off2, rfl, hb2, hc2⟩ := HP.out.2.at_ hlt
        have hd := rsame_drop (a := l) (b := l2) (j := j) (by rw [HP.out.1.1]; exact hlt) (by rw [HP.out.2.1]; exact hlt)
        obtain ⟨x, hx⟩ : ∃ x, l.getD j default = x := ⟨_, rfl⟩
        obtain ⟨y, hy⟩ : ∃ y, l2.getD j default = y := ⟨_, rfl⟩
        obtain ⟨x0, x1, x2, x3, x4, x5, x6⟩ := hc x hx
        obtain ⟨y0, y1, y2, y3, y4, y5, y6⟩ := hc2 y hy
        rw [hx, hy, hr] at hd
        have q1 := fun W => prow_same x y W
        have i1 : (0 : Int) ≤ j := by omega
        have i2 : (j : Int) < n := by omega
        clear hx hy hc hc2 hr
        cases hq : reqB x y
        · rw [hq, Bool.false_and] at hd
          rw [hq] at q1
          have HD := Lib.hid hd
          clear hd hq
          go_wp2_with fail
          go_quiet (fail)
          go_wp2_with fail
          go_ret
          exact ⟨by rw [HD.out]; rfl, drew_more _ _ _⟩
        · rw [hq, Bool.true_and] at hd
          rw [hq] at q1
          have HD := Lib.hid hd
          clear hd hq
          go_wp2_with fail
          go_quiet (fail)
          go_wp2_with fail
          go_roundw
          case rel => exact ⟨j + 1, by omega, by go_num, HD.out.symm, _, rfl⟩
          case measure => simp [intOf]; omega
      · obtain rfl : j = n := by omega
        have e1 : l.drop j = [] := List.drop_eq_nil_of_le (by rw [HP.out.1.1]; exact Nat.le_refl _)
        have e2 : l2.drop j = [] := List.drop_eq_nil_of_le (by rw [HP.out.2.1]; exact Nat.le_refl _)
        rw [e1, e2] at hr
        have HR := Lib.hid hr
        clear hr e1 e2
        go_wp2_with fail
        go_ret
        exact ⟨by rw [← HR.out]; rfl, _, rfl⟩
  · have e : rsame l l2 = false := rsame_len (by rw [h.1, h2.1]; exact hne)
    rw [e]
    have i1 : ((n : Int) != n2) = true := by
      rw [bne_iff_ne]; omega
    have i2 : (n != n2) = true := by rw [bne_iff_ne]; exact hne
    have i3 : decide (n = n2) = false := decide_eq_false hne
    clear h h2 e
    go_enter Tryz.func75, Tryz.ntmps75
    go_wp2_with fail
    go_ret
    exact ⟨rfl, 0, rfl⟩
set_option maxHeartbeats 1000000 in
theorem same_any (n c n2 c2 B : Nat) (A A2 : Option Addr) (l l2 : List Rw) (w : World) (h : RowsIn w B A n l) (h2 : RowsIn w B A2 n2 l2) (hn : n ≤ 1000) (hn2 : n2 ≤ 1000) :
    Calls Tryz.prog 51 #[.slice A n c, .slice A2 n2 c2] w fun e w' => e = .returned (.bool (rsame l l2)) ∧ Drew w w' := by
  have HE := Lib.hid (equal_any n c n2 c2 B A A2 l l2 w h h2 hn hn2)
  clear h h2
  go_enter Tryz.func51, Tryz.ntmps51
  go_wp2_with (go_at_call 75; (with_reducible refine HE.out.mono ?_); rintro e w1 ⟨rfl, m, rfl⟩)
  go_ret
  exact ⟨rfl, m, rfl⟩
end Go.Proofs.YtognlgklepgemaaGreat
