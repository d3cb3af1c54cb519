/- Layer 5, the program: the library's insertion sort, walked. -/
import Derived.Test.YtaahlepgmcgcfaaAgT
namespace Go.Proofs.Ytaahlepgmcgcfaa
open Go.ChangeShapes Go.WideShapes Go.ChangeAt Go.RowKit

def srtF (second : Bool) : Value := .func (.func 47) #[.agg #[ordF second]] #[]
theorem getD_app {X Y : List Rw} {i : Nat} (h : i < X.length) : (X ++ Y).getD i default = X.getD i default := by
  rw [List.getD_eq_getElem?_getD, List.getD_eq_getElem?_getD, List.getElem?_append_left h]
theorem app_drop {f : Rw → Rw → Int} {l : List Rw} {k : Nat} (h : k < l.length) : srt f l k ++ l.drop k = (srt f l k ++ [l.getD k default]) ++ l.drop (k + 1) := by
  rw [List.drop_eq_getElem_cons h, List.getD_eq_getElem?_getD, List.getElem?_eq_getElem h]
  simp
def Srt (w : World) (g : Nat) (l : List Rw) (e : Ending) (w' : World) : Prop := e = .returned (.tuple #[]) ∧ RowBlk w' g l ∧ w.grownBy w' (some g)
theorem grown_refl (w : World) (g : Nat) : w.grownBy w (some g) := ⟨rfl, rfl, rfl, Nat.le_refl _, fun _ _ _ => rfl⟩
theorem grown_drewN {a w : World} {row : Option Nat} (h : a.grownBy w row) (n : Nat) : a.grownBy (w.drewN n) row := ⟨h.os, h.tape, h.output, h.size, h.block⟩
set_option maxRecDepth 100000 in
set_option maxHeartbeats 4000000 in
theorem insert_any (second : Bool) (g n c : Nat) (l : List Rw) (w : World) (h : RowBlk w g l) (hl : l.length = n) (hn : n ≤ 1000) (hc : n ≤ c) (h0 : 0 < n) :
    Calls Try.prog 56 #[.slice (some ⟨g, 0, none⟩) n c, .int .i64 0, .int .i64 (n : Int), srtF second] w (Srt w g (srt (rord second) l n)) := by
  have HL := Lib.hid hl
  have hR := fun r q W => compare_any second r q W
  have HR := Lib.hid hR
  have HW := Lib.hid h
  have i0 : (0 : Int) < n := by omega
  clear h hl hR
  unfold srtF
  go_enter Try.func56, Try.ntmps56
  go_wp2_with fail
  go_loopw [8, 9] (fun i _ wr => ∃ k : Nat, 1 ≤ k ∧ k ≤ n ∧ i = .int .i64 (k : Int) ∧ RowBlk wr g (srt (rord second) l k ++ l.drop k) ∧ w.grownBy wr (some g)) (fun i _ _ => n - (intOf i).toNat)
  case atStart => exact ⟨1, by omega, by omega, rfl, by rw [show srt (rord second) l 1 ++ l.drop 1 = l by { cases l with | nil => (have := HL.out; simp at this; omega) | cons x l => rfl }]; exact HW.out, grown_refl _ _⟩
  case round =>
    obtain ⟨k, hk1, hk, rfl, hb, hg⟩ := hrel
    by_cases hlt : k < n
    · rw [app_drop (by rw [HL.out]; exact hlt)] at hb
      obtain ⟨X0, hX0⟩ : ∃ X, srt (rord second) l k ++ [l.getD k default] = X := ⟨_, rfl⟩
      rw [hX0] at hb
      have hlen : X0.length = k + 1 := by rw [← hX0, List.length_append, srt_len]; rfl
      have hT : sink (rord second) X0 k = srt (rord second) l (k + 1) := by rw [← hX0]; rfl
      have HX := Lib.hid (And.intro hlen hT)
      have HB := Lib.hid (And.intro hb hg)
      have i1 : (k : Int) < n := by omega
      have i2 : (0 : Int) ≤ k := by omega
      obtain ⟨wo, rfl⟩ : ∃ wo : World, wo = wr := ⟨_, rfl⟩
      clear hX0 hlen hT hb hg
      go_wp2_with fail
      go_loopw [9] (fun j wr => ∃ (m : Nat) (X : List Rw), m ≤ k ∧ j = .int .i64 (m : Int) ∧ X.length = k + 1 ∧ sink (rord second) X m = srt (rord second) l (k + 1) ∧ RowBlk wr g (X ++ l.drop (k + 1)) ∧ w.grownBy wr (some g)) (fun j _ => (intOf j).toNat)
      case atStart => exact ⟨k, X0, by omega, rfl, HX.out.1, HX.out.2, HB.out.1, HB.out.2⟩
      case round =>
        obtain ⟨m, X, hm, rfl, hXl, hXs, hb, hg⟩ := hrel
        have HB := Lib.hid (And.intro hb hg)
        have HX := Lib.hid (And.intro hXl hXs)
        cases m with
        | zero =>
          clear hb hg hXl hXs
          rw [show ((0 : Nat) : Int) = 0 from rfl]
          go_wp2_with fail
          go_quiet (fail)
          go_wp2_with fail
          refine ⟨⟨k + 1, by omega, by omega, by go_num, ?_, grown_drewN HB.out.2 _⟩, by simp [intOf]; omega⟩
          rw [← HX.out.2]
          exact HB.out.1
        | succ m =>
          obtain ⟨q, hq⟩ : ∃ q, m + 1 = q := ⟨_, rfl⟩
          rw [hq] at HX hm ⊢
          obtain ⟨x, hx⟩ : ∃ x, (X ++ l.drop (k + 1)).getD q default = x := ⟨_, rfl⟩
          obtain ⟨y, hy⟩ : ∃ y, (X ++ l.drop (k + 1)).getD m default = y := ⟨_, rfl⟩
          have hc1 := hb.cells (i := q) (by rw [List.length_append]; omega) hx
          have hc0 := hb.cells (i := m) (by rw [List.length_append]; omega) hy
          have HE : Hid (X.getD q default = x ∧ X.getD m default = y ∧ m + 1 = q) := Lib.hid ⟨by rw [← hx, getD_app (by omega)], by rw [← hy, getD_app (by omega)], hq⟩
          have hw1 : IntKind.i64.wrap ((q : Int) - 1) = (m : Int) := by rw [IntWalk.i64_in _ (by omega)]; omega
          have q1 : (0 : Int) < q := by omega
          have q4 : 0 < q := by omega
          have q5 : decide (0 < q) = true := decide_eq_true q4
          have q6 : decide ((0 : Int) < q) = true := decide_eq_true q1
          have q2 : (q : Int) < n := by omega
          have q3 : (0 : Int) ≤ q := by omega
          have m1 : (0 : Int) ≤ m := by omega
          have m2 : (m : Int) < n := by omega
          have HC : Hid (∀ W, Below wr.heap.size wr W → RowBlk W g (X ++ l.drop (k + 1))) := Lib.hid fun W hW => HB.out.1.below hW HB.out.1.lt
          have HO : Hid (∀ W, RowBlk W g (X ++ l.drop (k + 1)) → (W.cell? ⟨g, q * 7, none⟩ = some (.string x.p.k) ∧ W.cell? ⟨g, q * 7 + 1, none⟩ = some (.int .i64 x.p.s) ∧ W.cell? ⟨g, q * 7 + 2, none⟩ = some (.int .i64 x.p.e) ∧ W.cell? ⟨g, q * 7 + 3, none⟩ = some (.int .i64 x.a.c) ∧ W.cell? ⟨g, q * 7 + 4, none⟩ = some (.int .i64 x.a.s) ∧ W.cell? ⟨g, q * 7 + 5, none⟩ = some (.int .i64 x.a.lo) ∧ W.cell? ⟨g, q * 7 + 6, none⟩ = some (.int .i64 x.a.hi)) ∧ (W.cell? ⟨g, m * 7, none⟩ = some (.string y.p.k) ∧ W.cell? ⟨g, m * 7 + 1, none⟩ = some (.int .i64 y.p.s) ∧ W.cell? ⟨g, m * 7 + 2, none⟩ = some (.int .i64 y.p.e) ∧ W.cell? ⟨g, m * 7 + 3, none⟩ = some (.int .i64 y.a.c) ∧ W.cell? ⟨g, m * 7 + 4, none⟩ = some (.int .i64 y.a.s) ∧ W.cell? ⟨g, m * 7 + 5, none⟩ = some (.int .i64 y.a.lo) ∧ W.cell? ⟨g, m * 7 + 6, none⟩ = some (.int .i64 y.a.hi))) := Lib.hid fun W hW => ⟨hW.cells (i := q) (by rw [List.length_append]; omega) hx, hW.cells (i := m) (by rw [List.length_append]; omega) hy⟩
          have D0 : Hid (Below wr.heap.size wr wr.drew) := Lib.hid (Below.refl _ _).drew
          clear hb hg hXl hXs hx hy hq hc1 hc0
          obtain ⟨v, hv⟩ : ∃ v, rord second x y = v := ⟨_, rfl⟩
          have hcall := fun W => compare_any second x y W
          rw [hv] at hcall
          unfold rowV at hcall
          have HCALL := Lib.hid hcall
          have HV := Lib.hid hv
          clear hcall hv
          by_cases hneg : v < 0
          · go_wp2_with fail
            go_region_held3 (fun W => (W.cell? ⟨g, q * 7, none⟩ = some (.string x.p.k) ∧ W.cell? ⟨g, q * 7 + 1, none⟩ = some (.int .i64 x.p.s) ∧ W.cell? ⟨g, q * 7 + 2, none⟩ = some (.int .i64 x.p.e) ∧ W.cell? ⟨g, q * 7 + 3, none⟩ = some (.int .i64 x.a.c) ∧ W.cell? ⟨g, q * 7 + 4, none⟩ = some (.int .i64 x.a.s) ∧ W.cell? ⟨g, q * 7 + 5, none⟩ = some (.int .i64 x.a.lo) ∧ W.cell? ⟨g, q * 7 + 6, none⟩ = some (.int .i64 x.a.hi)) ∧ (W.cell? ⟨g, m * 7, none⟩ = some (.string y.p.k) ∧ W.cell? ⟨g, m * 7 + 1, none⟩ = some (.int .i64 y.p.s) ∧ W.cell? ⟨g, m * 7 + 2, none⟩ = some (.int .i64 y.p.e) ∧ W.cell? ⟨g, m * 7 + 3, none⟩ = some (.int .i64 y.a.c) ∧ W.cell? ⟨g, m * 7 + 4, none⟩ = some (.int .i64 y.a.s) ∧ W.cell? ⟨g, m * 7 + 5, none⟩ = some (.int .i64 y.a.lo) ∧ W.cell? ⟨g, m * 7 + 6, none⟩ = some (.int .i64 y.a.hi))) (first | exact HO.out _ (HC.out _ D0.out) | exact HO.out _ (HC.out _ D1.out)) (first
              | (go_at_call 47; ((with_reducible refine (HCALL.out _).mono ?_); rintro e w1 ⟨rfl, b1⟩; have D1 := Lib.hid (below_next D0.out b1); clear b1)))
            have hcx := HO.out _ (HC.out _ D1.out)
            have hfz := fun o => (HC.out _ D1.out).frozen o
            obtain ⟨⟨x0, x1, x2, x3, x4, x5, x6⟩, y0, y1, y2, y3, y4, y5, y6⟩ := hcx
            have hmq : m ≠ q := by have := HE.out.2.2; omega
            have hmq2 : m < q := by have := HE.out.2.2; omega
            have hmq3 : m * 7 ≠ q * 7 := by omega
            go_wp2_with fail
            go_region
            go_wp2_with fail
            have RB := ((HC.out _ D1.out).set (i := q) (by rw [List.length_append]; have := HX.out.1; omega) y).set (i := m) (by rw [List.length_set, List.length_append]; have := HX.out.1; omega) x
            rw [List.set_append_left _ _ (by have := HX.out.1; omega), List.set_append_left _ _ (by rw [List.length_set]; have := HX.out.1; omega)] at RB
            have GB := only_row (only_row (only_call HB.out.2 D1.out) (q * 7) y) (m * 7) x
            obtain ⟨W2, hW2⟩ : ∃ W2, setRow (setRow w1 g (q * 7) y) g (m * 7) x = W2 := ⟨_, rfl⟩
            rw [hW2] at RB GB
            unfold setRow at hW2
            rw [hW2]
            clear hW2 x0 x1 x2 x3 x4 x5 x6 y0 y1 y2 y3 y4 y5 y6
            have RB2 : RowBlk W2.drew g ((X.set q y).set m x ++ l.drop (k + 1)) := RB
            have GB2 : w.grownBy W2.drew (some g) := grown_drewN GB 1
            refine ⟨⟨m, (X.set q y).set m x, by omega, rfl, by rw [List.length_set, List.length_set]; exact HX.out.1, ?_, RB2, GB2⟩, by simp [intOf]; omega⟩
            have e := HX.out.2
            rw [← HE.out.2.2, sink_go _ _ _ (by rw [HE.out.2.2, HE.out.1, HE.out.2.1, HV.out]; exact hneg), HE.out.2.2, HE.out.1, HE.out.2.1] at e
            exact e
          · have hpos : decide (v < 0) = false := decide_eq_false hneg
            go_wp2_with fail
            go_region_held3 (fun W => (W.cell? ⟨g, q * 7, none⟩ = some (.string x.p.k) ∧ W.cell? ⟨g, q * 7 + 1, none⟩ = some (.int .i64 x.p.s) ∧ W.cell? ⟨g, q * 7 + 2, none⟩ = some (.int .i64 x.p.e) ∧ W.cell? ⟨g, q * 7 + 3, none⟩ = some (.int .i64 x.a.c) ∧ W.cell? ⟨g, q * 7 + 4, none⟩ = some (.int .i64 x.a.s) ∧ W.cell? ⟨g, q * 7 + 5, none⟩ = some (.int .i64 x.a.lo) ∧ W.cell? ⟨g, q * 7 + 6, none⟩ = some (.int .i64 x.a.hi)) ∧ (W.cell? ⟨g, m * 7, none⟩ = some (.string y.p.k) ∧ W.cell? ⟨g, m * 7 + 1, none⟩ = some (.int .i64 y.p.s) ∧ W.cell? ⟨g, m * 7 + 2, none⟩ = some (.int .i64 y.p.e) ∧ W.cell? ⟨g, m * 7 + 3, none⟩ = some (.int .i64 y.a.c) ∧ W.cell? ⟨g, m * 7 + 4, none⟩ = some (.int .i64 y.a.s) ∧ W.cell? ⟨g, m * 7 + 5, none⟩ = some (.int .i64 y.a.lo) ∧ W.cell? ⟨g, m * 7 + 6, none⟩ = some (.int .i64 y.a.hi))) (first | exact HO.out _ (HC.out _ D0.out) | exact HO.out _ (HC.out _ D1.out)) (first
              | (go_at_call 47; ((with_reducible refine (HCALL.out _).mono ?_); rintro e w1 ⟨rfl, b1⟩; have D1 := Lib.hid (below_next D0.out b1); clear b1)))
            go_wp2_with fail
            refine ⟨⟨k + 1, by omega, by omega, by go_num, ?_, only_call HB.out.2 D1.out⟩, by simp [intOf]; omega⟩
            have e := HX.out.2
            rw [← HE.out.2.2, sink_stop _ _ _ (by rw [HE.out.2.2, HE.out.1, HE.out.2.1, HV.out]; omega)] at e
            rw [← e]
            exact HC.out _ D1.out
    · obtain rfl : k = n := by omega
      have HB := Lib.hid (And.intro hb hg)
      have e : l.drop k = [] := List.drop_eq_nil_of_le (by rw [HL.out]; exact Nat.le_refl _)
      have HE := Lib.hid e
      clear hb hg e
      go_wp2_with fail
      go_end0
      refine ⟨rfl, ?_, HB.out.2⟩
      have h := HB.out.1
      rw [HE.out, List.append_nil] at h
      exact h
end Go.Proofs.Ytaahlepgmcgcfaa
