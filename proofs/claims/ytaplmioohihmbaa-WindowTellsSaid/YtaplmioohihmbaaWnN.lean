/- Layer 14: what spans are together, by the program and by the reference. -/
import Derived.Test.YtaplmioohihmbaaWnI
namespace Go.Proofs.Ytaplmioohihmbaa
open Go.ChangeShapes Go.WideShapes Go.ChangeAt Go.RowKit

/-- One span more. -/
def togS (a x : Int × Int) : Int × Int := (Wn.imn a.1 x.1, Wn.imx a.2 x.2)
theorem togS_self (x : Int × Int) : togS x x = x := by
  unfold togS Wn.imn Wn.imx
  simp
theorem tog_fold (x : Int × Int) (l : List (Int × Int)) : Wn.tog (x :: l) = (x :: l).foldl togS x := by
  rw [List.foldl_cons, togS_self]
  rfl
theorem fold_snoc (l : List (Int × Int)) (j : Nat) (x y : Int × Int) (h : l[j]? = some y) : (l.take (j + 1)).foldl togS x = togS ((l.take j).foldl togS x) y := by
  have hj := (List.getElem?_eq_some_iff.1 h).1
  rw [List.take_succ_eq_append_getElem hj, List.foldl_append]
  rw [List.getElem?_eq_getElem hj] at h
  rw [Option.some.inj h]
  rfl
theorem Blk.pair {W : World} {g : Nat} {T : TypeId} {u0 u1 : Value} (h : Blk W g T #[u0, u1]) (v0 v1 : Value) : Blk ((W.setCell ⟨g, 0, none⟩ v0).setCell ⟨g, 1, none⟩ v1) g T #[v0, v1] := (h.set_ 0 v0).set_ 1 v1
theorem Blk.far2 {W : World} {g f : Nat} {T : TypeId} {cs : Array Value} (h : Blk W g T cs) (hne : f ≠ g) (v0 v1 : Value) : Blk ((W.setCell ⟨f, 0, none⟩ v0).setCell ⟨f, 1, none⟩ v1) g T cs := (h.far hne v0).far hne v1
theorem below_pair {w W : World} {g : Nat} (h : Below w.heap.size w W) (hg : w.heap.size ≤ g) (v0 v1 : Value) : Below w.heap.size w ((W.setCell ⟨g, 0, none⟩ v0).setCell ⟨g, 1, none⟩ v1) :=
  (h.setCell (p := ⟨g, 0, none⟩) hg v0).setCell (p := ⟨g, 1, none⟩) hg v1
theorem Held.pair {w W : World} {x : Nat × TypeId × Array Value} {g f : Nat} {T : TypeId} {u0 u1 : Value} {cs : Array Value} (h : Held w W [x, (g, T, #[u0, u1]), (f, T, cs)]) (hne : g ≠ f) (hg : w.heap.size ≤ g) (v0 v1 : Value) : Held w ((W.setCell ⟨g, 0, none⟩ v0).setCell ⟨g, 1, none⟩ v1) [(g, T, #[v0, v1]), (f, T, cs)] :=
  ⟨below_pair h.1 hg v0 v1, fun y hy => by
    rcases List.mem_cons.1 hy with rfl | hy
    · exact (h.at_ (g := g) (t := T) (cs := #[u0, u1]) (by simp)).pair v0 v1
    · rcases List.mem_cons.1 hy with rfl | hy
      · exact (h.at_ (g := f) (t := T) (cs := cs) (by simp)).far2 hne v0 v1
      · cases hy⟩
def PrP (w : World) (x : Int × Int) (e : Ending) (w' : World) : Prop := e = .returned (.agg #[.int .i64 x.1, .int .i64 x.2]) ∧ Below w.heap.size w w'
set_option maxRecDepth 100000 in
set_option maxHeartbeats 4000000 in
theorem together_any (w : World) (F : Nat → Prop) (A : Option Addr) (n c : Nat) (l : List (Int × Int)) (h : Cells w F A n 2 (spL l)) (hn : n ≤ 1000000) : Calls Try.prog 17 #[.slice A n c] w (PrP w (Wn.tog l)) := by
  have hln : l.length = n := by have := h.1; rw [spL_len] at this; omega
  rcases Nat.eq_zero_or_pos n with h0 | h0
  · subst h0
    obtain rfl : l = [] := List.length_eq_zero_iff.1 hln
    clear h hln
    go_enter Try.func17, Try.ntmps17
    go_wp2_with fail
    have hb := Blk.new w 25 #[.int .i64 0, .int .i64 0]
    have e0 := hb.cell 0
    have e1 := hb.cell 1
    refine bodyPost_ret (v := .agg #[.int .i64 0, .int .i64 0]) ?_ rfl ⟨rfl, below_al1 _ _⟩
    simp [results, Try.results17, go_sem, e0, e1]
  · obtain ⟨x, r, rfl⟩ : ∃ x r, l = x :: r := by
      cases l with
      | nil => simp at hln; omega
      | cons x r => exact ⟨x, r, rfl⟩
    rw [tog_fold]
    obtain ⟨l, hl⟩ : ∃ l, x :: r = l := ⟨_, rfl⟩
    have hx : l[0]? = some x := by rw [← hl]; rfl
    rw [hl] at h hln ⊢
    clear hl
    obtain ⟨b, off, rfl, -, hbl, z0, z1⟩ := sp_cells h hx
    rw [Nat.zero_mul, Nat.add_zero] at z0 z1
    have hne : ((n : Int) == 0) = false := beq_eq_false_iff_ne.mpr (by omega)
    have i1 : (0 : Int) < n := by omega
    have hal := below_al1 w (.cells #[.int .i64 0, .int .i64 0] 25)
    have y0 := (hal.cell (p := ⟨b, off, none⟩) hbl).trans z0
    have y1 := (hal.cell (p := ⟨b, off + 1, none⟩) hbl).trans z1
    have H := Lib.hid (And.intro h (And.intro hln hx))
    clear z0 z1 h hln hx hal
    go_enter Try.func17, Try.ntmps17
    go_wp2_with fail
    clear y0 y1
    obtain ⟨w1, hw1⟩ : ∃ w1, (w.alloc (.cells #[.int .i64 0, .int .i64 0] 25)).alloc (.cells #[.int .i64 x.1, .int .i64 x.2] 25) = w1 := ⟨_, rfl⟩
    obtain ⟨rb, hrb⟩ : ∃ rb, w.heap.size = rb := ⟨_, rfl⟩
    obtain ⟨ab, hab⟩ : ∃ ab, rb + 1 = ab := ⟨_, rfl⟩
    have h0 := ((Held.start w).new #[.int .i64 0, .int .i64 0] 25).new #[.int .i64 x.1, .int .i64 x.2] 25
    have e : (w.alloc (.cells #[.int .i64 0, .int .i64 0] 25)).heap.size = ab := by simp; omega
    rw [hw1, hrb, e] at h0
    rw [hw1, hrb, hab]
    have HH := Lib.hid (And.intro h0 (And.intro hrb hab))
    clear h0 hw1 hrb hab e
    go_loopw [15] (fun i wr => ∃ j : Nat, j ≤ n ∧ i = .int .i64 (j : Int) ∧ Held w wr [(ab, 25, #[.int .i64 ((l.take j).foldl togS x).1, .int .i64 ((l.take j).foldl togS x).2]), (rb, 25, #[.int .i64 0, .int .i64 0])]) (fun i _ => n - (intOf i).toNat)
    case atStart => exact ⟨0, by omega, rfl, HH.out.1⟩
    case round =>
      obtain ⟨j, hj, rfl, hh⟩ := hrel
      by_cases hlt : j < n
      · have i2 : (0 : Int) ≤ (j : Int) := by omega
        have i3 : (j : Int) < (n : Int) := by omega
        obtain ⟨y, hy⟩ : ∃ y, l[j]? = some y := ⟨_, List.getElem?_eq_getElem (by rw [H.out.2.1]; exact hlt)⟩
        obtain ⟨b', off', e, -, hbl', z0, z1⟩ := sp_cells (H.out.1.below hh.1) hy
        injection e with e
        injection e with e1 e2
        subst e1 e2
        have hs := fold_snoc l j x y hy
        obtain ⟨a, ha⟩ : ∃ a, (l.take j).foldl togS x = a := ⟨_, rfl⟩
        rw [ha] at hh hs
        have hnew := hh.new #[.int .i64 y.1, .int .i64 y.2] 25
        have k := hnew.at_ (g := ab) (t := 25) (cs := #[.int .i64 a.1, .int .i64 a.2]) (by simp)
        have k0 := k.cell 0
        have k1 := k.cell 1
        have k2 := k.frozen 0
        have k3 := k.frozen 1
        have m1 := fun W => imn_run a.1 y.1 W
        have m2 := fun W => imx_run a.2 y.2 W
        have HK := Lib.hid (And.intro hnew (And.intro hs k))
        have hal := hh.at_ (g := ab) (t := 25) (cs := #[.int .i64 a.1, .int .i64 a.2]) (by simp)
        have hne2 : wr.heap.size ≠ ab := by have := hal.lt; omega
        clear hh hnew hs ha hy k hal
        go_wp2_with fail
        refine ⟨⟨j + 1, by omega, by go_num, ?_⟩, by simp [intOf]; omega⟩
        rw [HK.out.2.1]
        exact HK.out.1.pair (by have := HH.out.2; omega) (by have := HH.out.2; omega) _ _
      · obtain rfl : j = n := by omega
        rw [List.take_of_length_le (by rw [H.out.2.1]; exact Nat.le_refl _)] at hh
        obtain ⟨a, ha⟩ : ∃ a, l.foldl togS x = a := ⟨_, rfl⟩
        rw [ha] at hh
        have k := hh.at_ (g := ab) (t := 25) (cs := #[.int .i64 a.1, .int .i64 a.2]) (by simp)
        have q := hh.at_ (g := rb) (t := 25) (cs := #[.int .i64 0, .int .i64 0]) (by simp)
        have k0 := k.cell 0
        have k1 := k.cell 1
        have q2 := q.frozen 0
        have q3 := q.frozen 1
        have q0 := q.cell 0
        have q1 := q.cell 1
        have p := q.pair (.int .i64 a.1) (.int .i64 a.2)
        have p0 := p.cell 0
        have p1 := p.cell 1
        have HK := Lib.hid (And.intro hh (And.intro ha (And.intro p0 p1)))
        clear hh ha k q p p0 p1
        go_wp2_with fail
        obtain ⟨p0, p1⟩ := HK.out.2.2
        refine bodyPost_ret (v := .agg #[.int .i64 a.1, .int .i64 a.2]) ?_ rfl ⟨by rw [HK.out.2.1], below_pair HK.out.1.1 (by have := HH.out.2; omega) _ _⟩
        simp [results, Try.results17, go_sem, p0, p1]
end Go.Proofs.Ytaplmioohihmbaa
