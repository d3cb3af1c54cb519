/- Layer 14, the reference: what spans are together. -/
import Derived.Test.YtaplmioohihmbaaWnN
import Derived.Deep.RegionHeld3
namespace Go.Proofs.Ytaplmioohihmbaa
open Go.ChangeShapes Go.WideShapes Go.ChangeAt Go.RowKit

theorem tog_zero (l : List (Int × Int)) (x : Int × Int) (h : l[0]? = some x) : Wn.tog (l.take 1) = x := by
  cases l with
  | nil => cases h
  | cons y r =>
    have : y = x := by simpa using h
    subst this
    rfl
theorem tog_succ (l : List (Int × Int)) (j : Nat) (x : Int × Int) (hj : 0 < j) (h : l[j]? = some x) : Wn.tog (l.take (j + 1)) = togS (Wn.tog (l.take j)) x := by
  cases l with
  | nil => cases h
  | cons y r =>
    have e := fold_snoc (y :: r) j y x h
    obtain ⟨m, rfl⟩ : ∃ m, j = m + 1 := ⟨j - 1, by omega⟩
    rw [List.take_succ_cons, tog_fold, ← List.take_succ_cons, e, List.take_succ_cons, tog_fold]
theorem Held.cell0 {w W : World} {g f : Nat} {T : TypeId} {u0 u1 : Value} {cs : Array Value} (h : Held w W [(g, T, #[u0, u1]), (f, T, cs)]) (hne : g ≠ f) (hg : w.heap.size ≤ g) (v : Value) : Held w (W.setCell ⟨g, 0, none⟩ v) [(g, T, #[v, u1]), (f, T, cs)] :=
  ⟨h.1.setCell (p := ⟨g, 0, none⟩) hg v, fun y hy => by
    rcases List.mem_cons.1 hy with rfl | hy
    · exact (h.at_ (g := g) (t := T) (cs := #[u0, u1]) (by simp)).set_ 0 v
    · rcases List.mem_cons.1 hy with rfl | hy
      · exact (h.at_ (g := f) (t := T) (cs := cs) (by simp)).far hne v
      · cases hy⟩
theorem Held.cell1 {w W : World} {g f : Nat} {T : TypeId} {u0 u1 : Value} {cs : Array Value} (h : Held w W [(g, T, #[u0, u1]), (f, T, cs)]) (hne : g ≠ f) (hg : w.heap.size ≤ g) (v : Value) : Held w (W.setCell ⟨g, 1, none⟩ v) [(g, T, #[u0, v]), (f, T, cs)] :=
  ⟨h.1.setCell (p := ⟨g, 1, none⟩) hg v, fun y hy => by
    rcases List.mem_cons.1 hy with rfl | hy
    · exact (h.at_ (g := g) (t := T) (cs := #[u0, u1]) (by simp)).set_ 1 v
    · rcases List.mem_cons.1 hy with rfl | hy
      · exact (h.at_ (g := f) (t := T) (cs := cs) (by simp)).far hne v
      · cases hy⟩
theorem Held.drew1 {w W : World} {l : List (Nat × TypeId × Array Value)} (h : Held w W l) : Held w W.drew l := ⟨⟨h.1.os, h.1.tape, h.1.output, h.1.size, h.1.block⟩, h.2⟩
set_option maxRecDepth 100000 in
set_option maxHeartbeats 4000000 in
theorem refTogether_any (w : World) (F : Nat → Prop) (A : Option Addr) (n c : Nat) (l : List (Int × Int)) (h : Cells w F A n 2 (spL l)) (hn : n ≤ 1000000) : Calls Try.prog 22 #[.slice A n c] w (PrP w (Wn.tog l)) := by
  have hln : l.length = n := by have := h.1; rw [spL_len] at this; omega
  have H := Lib.hid (And.intro h hln)
  clear h hln
  go_enter Try.func22, Try.ntmps22
  go_wp2_with fail
  obtain ⟨w1, hw1⟩ : ∃ w1, (w.alloc (.cells #[.int .i64 0, .int .i64 0] 32)).alloc (.cells #[.int .i64 0, .int .i64 0] 32) = w1 := ⟨_, rfl⟩
  obtain ⟨rb, hrb⟩ : ∃ rb, w.heap.size = rb := ⟨_, rfl⟩
  obtain ⟨ab, hab⟩ : ∃ ab, rb + 1 = ab := ⟨_, rfl⟩
  have h0 := ((Held.start w).new #[.int .i64 0, .int .i64 0] 32).new #[.int .i64 0, .int .i64 0] 32
  have e : (w.alloc (.cells #[.int .i64 0, .int .i64 0] 32)).heap.size = ab := by simp; omega
  rw [hw1, hrb, e] at h0
  rw [hw1, hrb, hab]
  have HH := Lib.hid (And.intro h0 (And.intro hrb hab))
  clear h0 hw1 hrb hab e
  go_loopw [4] (fun i wr => ∃ j : Nat, j ≤ n ∧ i = .int .i64 (j : Int) ∧ Held w wr [(ab, 32, #[.int .i64 (Wn.tog (l.take j)).1, .int .i64 (Wn.tog (l.take j)).2]), (rb, 32, #[.int .i64 0, .int .i64 0])]) (fun i _ => n - (intOf i).toNat)
  case atStart => exact ⟨0, by omega, rfl, HH.out.1⟩
  case round =>
    obtain ⟨j, hj, rfl, hh⟩ := hrel
    by_cases hlt : j < n
    · have i2 : (0 : Int) ≤ (j : Int) := by omega
      have i3 : (j : Int) < (n : Int) := by omega
      obtain ⟨y, hy⟩ : ∃ y, l[j]? = some y := ⟨_, List.getElem?_eq_getElem (by rw [H.out.2]; exact hlt)⟩
      obtain ⟨b, off, rfl, -, hbl, z0, z1⟩ := sp_cells H.out.1 hy
      have y0 := (hh.1.cell (p := ⟨b, off + j * 2, none⟩) hbl).trans z0
      have y1 := (hh.1.cell (p := ⟨b, off + j * 2 + 1, none⟩) hbl).trans z1
      have hne3 : b ≠ ab := by have := HH.out.2; omega
      obtain ⟨a, ha⟩ : ∃ a, Wn.tog (l.take j) = a := ⟨_, rfl⟩
      rw [ha] at hh
      have k := hh.at_ (g := ab) (t := 32) (cs := #[.int .i64 a.1, .int .i64 a.2]) (by simp)
      have k0 := k.cell 0
      have k1 := k.cell 1
      have k2 := k.frozen 0
      have k3 := k.frozen 1
      rcases Nat.eq_zero_or_pos j with hj0 | hj0
      · subst hj0
        have hs := tog_zero l y hy
        rw [Nat.zero_mul, Nat.add_zero] at y0 y1
        have HK := Lib.hid (And.intro hh hs)
        clear hh hs ha hy k z0 z1
        go_wp2_with fail
        go_quiet (fail)
        go_wp2_with fail
        go_quiet (fail)
        go_wp2_with fail
        refine ⟨⟨0 + 1, by omega, by go_num, ?_⟩, by simp [intOf]; omega⟩
        rw [HK.out.2]
        exact ((((HK.out.1.drewN _).cell0 (by have := HH.out.2; omega) (by have := HH.out.2; omega) _).drewN _).cell1 (by have := HH.out.2; omega) (by have := HH.out.2; omega) _)
      · have hs := tog_succ l j y hj0 hy
        rw [ha] at hs
        have j0 : ((j : Int) == 0) = false := beq_eq_false_iff_ne.mpr (by omega)
        have HK := Lib.hid (And.intro hh hs)
        clear hh hs ha hy k z0 z1
        by_cases h1 : y.1 < a.1
        · by_cases h2 : a.2 < y.2
          · have e1 : Hid (Wn.imn a.1 y.1 = y.1) := Lib.hid (if_pos h1)
            have e2 : Hid (Wn.imx a.2 y.2 = y.2) := Lib.hid (if_pos h2)
            go_wp2_with fail
            go_quiet (fail)
            go_wp2_with fail
            go_quiet (fail)
            go_wp2_with fail
            refine ⟨⟨j + 1, by omega, by go_num, ?_⟩, by simp [intOf]; omega⟩
            rw [HK.out.2]
            unfold togS
            simp only [e1.out, e2.out]
            exact ((((HK.out.1.drewN _).cell0 (by have := HH.out.2; omega) (by have := HH.out.2; omega) _).drewN _).cell1 (by have := HH.out.2; omega) (by have := HH.out.2; omega) _)
          · have e1 : Hid (Wn.imn a.1 y.1 = y.1) := Lib.hid (if_pos h1)
            have e2 : Hid (Wn.imx a.2 y.2 = a.2) := Lib.hid (if_neg h2)
            go_wp2_with fail
            go_quiet (fail)
            go_wp2_with fail
            go_quiet (fail)
            go_wp2_with fail
            refine ⟨⟨j + 1, by omega, by go_num, ?_⟩, by simp [intOf]; omega⟩
            rw [HK.out.2]
            unfold togS
            simp only [e1.out, e2.out]
            exact (((HK.out.1.drewN _).cell0 (by have := HH.out.2; omega) (by have := HH.out.2; omega) _).drewN _)
        · by_cases h2 : a.2 < y.2
          · have e1 : Hid (Wn.imn a.1 y.1 = a.1) := Lib.hid (if_neg h1)
            have e2 : Hid (Wn.imx a.2 y.2 = y.2) := Lib.hid (if_pos h2)
            go_wp2_with fail
            go_quiet (fail)
            go_wp2_with fail
            go_quiet (fail)
            go_wp2_with fail
            refine ⟨⟨j + 1, by omega, by go_num, ?_⟩, by simp [intOf]; omega⟩
            rw [HK.out.2]
            unfold togS
            simp only [e1.out, e2.out]
            exact ((HK.out.1.drewN _).cell1 (by have := HH.out.2; omega) (by have := HH.out.2; omega) _)
          · have e1 : Hid (Wn.imn a.1 y.1 = a.1) := Lib.hid (if_neg h1)
            have e2 : Hid (Wn.imx a.2 y.2 = a.2) := Lib.hid (if_neg h2)
            go_wp2_with fail
            go_quiet (fail)
            go_wp2_with fail
            go_quiet (fail)
            go_wp2_with fail
            refine ⟨⟨j + 1, by omega, by go_num, ?_⟩, by simp [intOf]; omega⟩
            rw [HK.out.2]
            unfold togS
            simp only [e1.out, e2.out]
            exact (HK.out.1.drewN _)
    · obtain rfl : j = n := by omega
      rw [List.take_of_length_le (by rw [H.out.2]; exact Nat.le_refl _)] at hh
      obtain ⟨a, ha⟩ : ∃ a, Wn.tog l = a := ⟨_, rfl⟩
      rw [ha] at hh
      have k := hh.at_ (g := ab) (t := 32) (cs := #[.int .i64 a.1, .int .i64 a.2]) (by simp)
      have q := hh.at_ (g := rb) (t := 32) (cs := #[.int .i64 0, .int .i64 0]) (by simp)
      have k0 := k.cell 0
      have k1 := k.cell 1
      have q2 := q.frozen 0
      have q3 := q.frozen 1
      have q0 := q.cell 0
      have q1 := q.cell 1
      have p := q.pair (.int .i64 a.1) (.int .i64 a.2)
      have p0 := p.cell 0
      have p1 := p.cell 1
      have HK := Lib.hid (And.intro hh (And.intro ha (And.intro p0 p1)))
      clear hh ha k q p p0 p1
      go_wp2_with fail
      obtain ⟨p0, p1⟩ := HK.out.2.2
      refine bodyPost_ret (v := .agg #[.int .i64 a.1, .int .i64 a.2]) ?_ rfl ⟨by rw [HK.out.2.1], below_pair HK.out.1.1 (by have := HH.out.2; omega) _ _⟩
      simp [results, Try.results22, go_sem, p0, p1]
end Go.Proofs.Ytaplmioohihmbaa
