/- Layer 6, the program: what a kind has; whether an operation fits it; events and watermarks made. -/
import Derived.Test.YtbcdacfmhjgfiaaPk6
import Derived.Test.YtbcdacfmhjgfiaaEvB
import Derived.Test.YtbcdacfmhjgfiaaRefEvF
import Derived.Laws.EntriesVeiled
namespace Go.Proofs.Ytbcdacfmhjgfiaa
open Go.ChangeShapes Go.WideShapes Go.ChangeAt Go.RowKit

abbrev fnV (k : Nat) : Value := .func (.func k) #[] #[]
def KindP (w : World) (v : Value) (ok : Bool) (e : Ending) (w' : World) : Prop := e = .returned (.tuple #[v, .bool ok]) ∧ Below w.heap.size w w'
abbrev kEvent : Value := .agg #[fnV 35, fnV 36, fnV 37]
abbrev kMark : Value := .agg #[fnV 38, fnV 39, fnV 40]
abbrev kNone : Value := .agg #[.nilFunc, .nilFunc, .nilFunc]
theorem two_blks (w : World) (T U : TypeId) (X Y : Array Value) : ∃ w0, (w.alloc (.cells X T)).alloc (.cells Y U) = w0 ∧ Blk w0 w.heap.size T X ∧ Blk w0 (w.heap.size + 1) U Y ∧ Below w.heap.size w w0 := by
  refine ⟨_, rfl, ?_, ?_, ((Below.refl _ _).alloc (Nat.le_refl _) _).alloc (by simp) _⟩
  · exact (Blk.new w T _).below ((Below.refl _ _).alloc (Nat.le_refl _) _) (Blk.new w T _).lt
  · have := Blk.new (w.alloc (.cells X T)) U Y
    rw [World.size_alloc] at this
    exact this
theorem cells9 {w : World} {g : Nat} {t : TypeId} {cs : Array Value} (h : Blk w g t cs) : (w.cell? ⟨g, 0, none⟩ = cs[0]? ∧ w.cell? ⟨g, 1, none⟩ = cs[1]? ∧ w.cell? ⟨g, 2, none⟩ = cs[2]? ∧ w.cell? ⟨g, 3, none⟩ = cs[3]? ∧ w.cell? ⟨g, 4, none⟩ = cs[4]? ∧ w.cell? ⟨g, 5, none⟩ = cs[5]? ∧ w.cell? ⟨g, 6, none⟩ = cs[6]? ∧ w.cell? ⟨g, 7, none⟩ = cs[7]? ∧ w.cell? ⟨g, 8, none⟩ = cs[8]?) ∧ w.frozen? ⟨g, 0, none⟩ = false ∧ w.frozen? ⟨g, 1, none⟩ = false ∧ w.frozen? ⟨g, 2, none⟩ = false ∧ w.frozen? ⟨g, 3, none⟩ = false ∧ w.frozen? ⟨g, 4, none⟩ = false ∧ w.frozen? ⟨g, 5, none⟩ = false ∧ w.frozen? ⟨g, 6, none⟩ = false ∧ w.frozen? ⟨g, 7, none⟩ = false ∧ w.frozen? ⟨g, 8, none⟩ = false :=
  ⟨⟨h.cell 0, h.cell 1, h.cell 2, h.cell 3, h.cell 4, h.cell 5, h.cell 6, h.cell 7, h.cell 8⟩, h.frozen 0, h.frozen 1, h.frozen 2, h.frozen 3, h.frozen 4, h.frozen 5, h.frozen 6, h.frozen 7, h.frozen 8⟩
set_option maxRecDepth 100000 in
set_option maxHeartbeats 1000000 in
theorem kind_one (w : World) : Calls Try.prog 25 #[.int .u8 1] w (KindP w kEvent true) := by
  obtain ⟨w0, hw, k0, k1, hb⟩ := two_blks w 60 74 #[.nilFunc, .nilFunc, .nilFunc] #[.nilFunc, .nilFunc, .nilFunc, .nilFunc, .nilFunc, .nilFunc, .nilFunc, .nilFunc, .nilFunc]
  obtain ⟨⟨c0, c1, c2, c3, c4, c5, c6, c7, c8⟩, f0, f1, f2, f3, f4, f5, f6, f7, f8⟩ := cells9 k1
  simp at c0 c1 c2 c3 c4 c5 c6 c7 c8
  obtain ⟨d0, d1, d2, g0, g1, g2⟩ := cells3 k0
  have HB := Lib.hid hb
  clear hb k0 k1
  go_enter Try.func25, Try.ntmps25
  go_wp2_with fail
  have hm : Below w.heap.size w ((((((((((((w0.setCell ⟨w.heap.size + 1, 0, none⟩ .nilFunc).setCell ⟨w.heap.size + 1, 1, none⟩ .nilFunc).setCell ⟨w.heap.size + 1, 2, none⟩ .nilFunc).setCell ⟨w.heap.size + 1, 3, none⟩ (fnV 35)).setCell ⟨w.heap.size + 1, 4, none⟩ (fnV 36)).setCell ⟨w.heap.size + 1, 5, none⟩ (fnV 37)).setCell ⟨w.heap.size + 1, 6, none⟩ (fnV 38)).setCell ⟨w.heap.size + 1, 7, none⟩ (fnV 39)).setCell ⟨w.heap.size + 1, 8, none⟩ (fnV 40)).setCell ⟨w.heap.size, 0, none⟩ (fnV 35)).setCell ⟨w.heap.size, 1, none⟩ (fnV 36)).setCell ⟨w.heap.size, 2, none⟩ (fnV 37)) :=
    ((((((((((((HB.out.setCell (p := ⟨w.heap.size + 1, 0, none⟩) (by show w.heap.size ≤ w.heap.size + 1; omega) _).setCell (p := ⟨w.heap.size + 1, 1, none⟩) (by show w.heap.size ≤ w.heap.size + 1; omega) _).setCell (p := ⟨w.heap.size + 1, 2, none⟩) (by show w.heap.size ≤ w.heap.size + 1; omega) _).setCell (p := ⟨w.heap.size + 1, 3, none⟩) (by show w.heap.size ≤ w.heap.size + 1; omega) _).setCell (p := ⟨w.heap.size + 1, 4, none⟩) (by show w.heap.size ≤ w.heap.size + 1; omega) _).setCell (p := ⟨w.heap.size + 1, 5, none⟩) (by show w.heap.size ≤ w.heap.size + 1; omega) _).setCell (p := ⟨w.heap.size + 1, 6, none⟩) (by show w.heap.size ≤ w.heap.size + 1; omega) _).setCell (p := ⟨w.heap.size + 1, 7, none⟩) (by show w.heap.size ≤ w.heap.size + 1; omega) _).setCell (p := ⟨w.heap.size + 1, 8, none⟩) (by show w.heap.size ≤ w.heap.size + 1; omega) _).setCell (p := ⟨w.heap.size, 0, none⟩) (Nat.le_refl _) _).setCell (p := ⟨w.heap.size, 1, none⟩) (Nat.le_refl _) _).setCell (p := ⟨w.heap.size, 2, none⟩) (Nat.le_refl _) _)
  refine bodyPost_ret (v := .tuple #[kEvent, .bool true]) ?_ rfl ⟨rfl, hm⟩
  simp [results, Try.results25, go_sem, d0, d1, d2]
set_option maxRecDepth 100000 in
set_option maxHeartbeats 1000000 in
theorem kind_two (w : World) : Calls Try.prog 25 #[.int .u8 2] w (KindP w kMark true) := by
  obtain ⟨w0, hw, k0, k1, hb⟩ := two_blks w 60 74 #[.nilFunc, .nilFunc, .nilFunc] #[.nilFunc, .nilFunc, .nilFunc, .nilFunc, .nilFunc, .nilFunc, .nilFunc, .nilFunc, .nilFunc]
  obtain ⟨⟨c0, c1, c2, c3, c4, c5, c6, c7, c8⟩, f0, f1, f2, f3, f4, f5, f6, f7, f8⟩ := cells9 k1
  simp at c0 c1 c2 c3 c4 c5 c6 c7 c8
  obtain ⟨d0, d1, d2, g0, g1, g2⟩ := cells3 k0
  have HB := Lib.hid hb
  clear hb k0 k1
  go_enter Try.func25, Try.ntmps25
  go_wp2_with fail
  have hm : Below w.heap.size w ((((((((((((w0.setCell ⟨w.heap.size + 1, 0, none⟩ .nilFunc).setCell ⟨w.heap.size + 1, 1, none⟩ .nilFunc).setCell ⟨w.heap.size + 1, 2, none⟩ .nilFunc).setCell ⟨w.heap.size + 1, 3, none⟩ (fnV 35)).setCell ⟨w.heap.size + 1, 4, none⟩ (fnV 36)).setCell ⟨w.heap.size + 1, 5, none⟩ (fnV 37)).setCell ⟨w.heap.size + 1, 6, none⟩ (fnV 38)).setCell ⟨w.heap.size + 1, 7, none⟩ (fnV 39)).setCell ⟨w.heap.size + 1, 8, none⟩ (fnV 40)).setCell ⟨w.heap.size, 0, none⟩ (fnV 38)).setCell ⟨w.heap.size, 1, none⟩ (fnV 39)).setCell ⟨w.heap.size, 2, none⟩ (fnV 40)) :=
    ((((((((((((HB.out.setCell (p := ⟨w.heap.size + 1, 0, none⟩) (by show w.heap.size ≤ w.heap.size + 1; omega) _).setCell (p := ⟨w.heap.size + 1, 1, none⟩) (by show w.heap.size ≤ w.heap.size + 1; omega) _).setCell (p := ⟨w.heap.size + 1, 2, none⟩) (by show w.heap.size ≤ w.heap.size + 1; omega) _).setCell (p := ⟨w.heap.size + 1, 3, none⟩) (by show w.heap.size ≤ w.heap.size + 1; omega) _).setCell (p := ⟨w.heap.size + 1, 4, none⟩) (by show w.heap.size ≤ w.heap.size + 1; omega) _).setCell (p := ⟨w.heap.size + 1, 5, none⟩) (by show w.heap.size ≤ w.heap.size + 1; omega) _).setCell (p := ⟨w.heap.size + 1, 6, none⟩) (by show w.heap.size ≤ w.heap.size + 1; omega) _).setCell (p := ⟨w.heap.size + 1, 7, none⟩) (by show w.heap.size ≤ w.heap.size + 1; omega) _).setCell (p := ⟨w.heap.size + 1, 8, none⟩) (by show w.heap.size ≤ w.heap.size + 1; omega) _).setCell (p := ⟨w.heap.size, 0, none⟩) (Nat.le_refl _) _).setCell (p := ⟨w.heap.size, 1, none⟩) (Nat.le_refl _) _).setCell (p := ⟨w.heap.size, 2, none⟩) (Nat.le_refl _) _)
  refine bodyPost_ret (v := .tuple #[kMark, .bool true]) ?_ rfl ⟨rfl, hm⟩
  simp [results, Try.results25, go_sem, d0, d1, d2]
theorem below_sets3 {w w0 : World} (h : Below w.heap.size w w0) (x y z : Value) : Below w.heap.size w (((w0.setCell ⟨w.heap.size, 0, none⟩ x).setCell ⟨w.heap.size, 1, none⟩ y).setCell ⟨w.heap.size, 2, none⟩ z) :=
  ((h.setCell (p := ⟨w.heap.size, 0, none⟩) (Nat.le_refl _) _).setCell (p := ⟨w.heap.size, 1, none⟩) (Nat.le_refl _) _).setCell (p := ⟨w.heap.size, 2, none⟩) (Nat.le_refl _) _
set_option maxRecDepth 100000 in
set_option maxHeartbeats 1000000 in
theorem kind_no (k : Nat) (w : World) (h1 : k ≠ 1) (h2 : k ≠ 2) : Calls Try.prog 25 #[.int .u8 (k : Int)] w (KindP w kNone false) := by
  have hb : ∀ o, Below w.heap.size w (w.alloc o) := fun o => (Below.refl _ _).alloc (Nat.le_refl _) _
  have HB := Lib.hid hb
  clear hb
  by_cases h0 : k = 0
  · subst h0
    go_enter Try.func25, Try.ntmps25
    go_wp2_with fail
    refine bodyPost_ret (v := .tuple #[kNone, .bool false]) ?_ rfl ⟨rfl, HB.out _⟩
    simp [results, Try.results25, go_sem]
  · have i1 : ¬ (k : Int) < 1 := by omega
    have i2 : (2 : Int) < k := by omega
    clear h0 h1 h2
    go_enter Try.func25, Try.ntmps25
    go_wp2_with fail
    refine bodyPost_ret (v := .tuple #[kNone, .bool false]) ?_ rfl ⟨rfl, HB.out _⟩
    simp [results, Try.results25, go_sem]
abbrev opV (k : Int) (s : ByteArray) (t v : Int) : Value := .agg #[.int .u8 k, .string s, .int .i64 t, .int .i64 v]
/-- A call that tells a truth, and makes only memory. -/
def FitP (w : World) (r : Bool) (e : Ending) (w' : World) : Prop := e = .returned (.bool r) ∧ Below w.heap.size w w'
def evFits (s : ByteArray) : Bool := decide (1 ≤ s.size ∧ s.size ≤ 32)
def mkFits (s : ByteArray) (v : Int) : Bool := decide (s.size = 0 ∧ v = 0)
theorem empty_not {s : ByteArray} (h : s.size ≠ 0) : s.toList.isEmpty = false := by
  have := Ev.empty_no h
  simpa using this
set_option maxHeartbeats 400000 in
theorem eventFits_any (k : Int) (s : ByteArray) (t v : Int) (w : World) : Calls Try.prog 35 #[opV k s t v] w (FitP w (evFits s)) := by
  have hb : ∀ o, Below w.heap.size w (w.alloc o) := fun o => (Below.refl _ _).alloc (Nat.le_refl _) _
  have HB := Lib.hid hb
  clear hb
  by_cases h1 : s.size = 0
  · obtain rfl := Ev.size_zero h1
    clear h1
    go_enter Try.func35, Try.ntmps35
    go_wp2_with fail
    go_ret
    exact ⟨rfl, HB.out _⟩
  · have i1 := Ev.empty_no h1
    have i1b := empty_not h1
    by_cases h2 : s.size ≤ 32
    · have e : evFits s = true := decide_eq_true ⟨by omega, h2⟩
      have HE := Lib.hid e
      have i2 : (s.size : Int) ≤ 32 := by omega
      clear e h1
      go_enter Try.func35, Try.ntmps35
      go_wp2_with fail
      go_ret
      rw [HE.out]
      exact ⟨rfl, HB.out _⟩
    · have e : evFits s = false := decide_eq_false (fun c => h2 c.2)
      have HE := Lib.hid e
      have i2 : ¬ (s.size : Int) ≤ 32 := by omega
      clear e h1 h2
      go_enter Try.func35, Try.ntmps35
      go_wp2_with fail
      go_ret
      rw [HE.out]
      exact ⟨rfl, HB.out _⟩
set_option maxHeartbeats 400000 in
theorem markFits_any (k : Int) (s : ByteArray) (t v : Int) (w : World) : Calls Try.prog 38 #[opV k s t v] w (FitP w (mkFits s v)) := by
  have hb : ∀ o, Below w.heap.size w (w.alloc o) := fun o => (Below.refl _ _).alloc (Nat.le_refl _) _
  have HB := Lib.hid hb
  clear hb
  by_cases h1 : s.size = 0
  · obtain rfl := Ev.size_zero h1
    clear h1
    by_cases h2 : v = 0
    · subst h2
      go_enter Try.func38, Try.ntmps38
      go_wp2_with fail
      go_ret
      exact ⟨rfl, HB.out _⟩
    · have e : mkFits ⟨#[]⟩ v = false := decide_eq_false (fun c => h2 c.2)
      have HE := Lib.hid e
      have i2 : (v == 0) = false := by rw [beq_eq_false_iff_ne]; exact h2
      clear e
      go_enter Try.func38, Try.ntmps38
      go_wp2_with fail
      go_ret
      rw [HE.out]
      exact ⟨rfl, HB.out _⟩
  · have i1 := Ev.empty_no h1
    have i1b := empty_not h1
    have e : mkFits s v = false := decide_eq_false (fun c => h1 c.1)
    have HE := Lib.hid e
    clear e h1
    go_enter Try.func38, Try.ntmps38
    go_wp2_with fail
    go_ret
    rw [HE.out]
    exact ⟨rfl, HB.out _⟩
def OpP (w : World) (o : Value) (e : Ending) (w' : World) : Prop := e = .returned o ∧ Below w.heap.size w w'
theorem below_sets4 {w w0 : World} (h : Below w.heap.size w w0) (x y z u : Value) : Below w.heap.size w ((((w0.setCell ⟨w.heap.size, 0, none⟩ x).setCell ⟨w.heap.size, 1, none⟩ y).setCell ⟨w.heap.size, 2, none⟩ z).setCell ⟨w.heap.size, 3, none⟩ u) :=
  (((h.setCell (p := ⟨w.heap.size, 0, none⟩) (Nat.le_refl _) _).setCell (p := ⟨w.heap.size, 1, none⟩) (Nat.le_refl _) _).setCell (p := ⟨w.heap.size, 2, none⟩) (Nat.le_refl _) _).setCell (p := ⟨w.heap.size, 3, none⟩) (Nat.le_refl _) _
set_option maxHeartbeats 400000 in
theorem evOf_any (s : ByteArray) (t v : Int) (w : World) : Calls Try.prog 22 #[.string s, .int .i64 t, .int .i64 v] w (OpP w (opV 1 s t v)) := by
  have hb : ∀ o, Below w.heap.size w (w.alloc o) := fun o => (Below.refl _ _).alloc (Nat.le_refl _) _
  have HB := Lib.hid hb
  clear hb
  go_enter Try.func22, Try.ntmps22
  go_wp2_with fail
  refine bodyPost_ret (v := opV 1 s t v) ?_ rfl ⟨rfl, HB.out _⟩
  simp [results, Try.results22, go_sem]
set_option maxHeartbeats 400000 in
theorem evAt_any (t : Int) (w : World) : Calls Try.prog 23 #[.int .i64 t] w (OpP w (opV 2 ⟨#[]⟩ t 0)) := by
  have hb : ∀ o, Below w.heap.size w (w.alloc o) := fun o => (Below.refl _ _).alloc (Nat.le_refl _) _
  have HB := Lib.hid hb
  clear hb
  go_enter Try.func23, Try.ntmps23
  go_wp2_with fail
  refine bodyPost_ret (v := opV 2 ⟨#[]⟩ t 0) ?_ rfl ⟨rfl, HB.out _⟩
  simp [results, Try.results23, go_sem]
set_option maxHeartbeats 400000 in
theorem putMark_any (k : Int) (s : ByteArray) (t v : Int) (w : World) : Calls Try.prog 39 #[opV k s t v] w (OwnPost w 8 (Pk.be 8 (Ev.u64 t))) := by
  go_enter Try.func39, Try.ntmps39
  go_wp2_with fail
  refine (putInt_any t (Ev.u64 t) _ (Ev.u64_is t) (Ev.u64_lt t)).mono ?_
  rintro e w1 ⟨A, c, rfl, hown, hb⟩
  have HO := Lib.hid (And.intro (own_lower hown (b' := w.heap.size) (by simp)) (below_lit _ hb))
  clear hown hb
  go_wp2_with fail
  go_ret
  exact ⟨A, c, rfl, HO.out.1, HO.out.2⟩
end Go.Proofs.Ytbcdacfmhjgfiaa
