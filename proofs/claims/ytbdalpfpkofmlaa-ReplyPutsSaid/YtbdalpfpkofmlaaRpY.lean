/- tidepooldocs: few rows and panes. -/
import Derived.Test.YtbdalpfpkofmlaaRpI
namespace Go.Proofs.Ytbdalpfpkofmlaa
open Go.ChangeShapes Go.WideShapes Go.ChangeAt Go.RowKit

theorem all_snoc {α : Type} [Inhabited α] {p : α → Bool} {l : List α} {j : Nat} (hj : j < l.length) (h : (l.take j).all p = true) (h2 : p (l.getD j default) = true) : (l.take (j + 1)).all p = true := by
  rw [all_take hj h]
  exact h2
def Rp.fewR (r : Rw) : Bool := decide (r.p.k.size ≤ 60)
set_option maxRecDepth 100000 in
set_option maxHeartbeats 1000000 in
theorem fewR_any (n c B : Nat) (A : Option Addr) (l : List Rw) (w : World) (h : RowsIn w B A n l) (hn : n ≤ 80) : Calls Try.prog 25 #[.slice A n c] w fun e w' => e = .returned (.bool (l.all Rp.fewR)) ∧ w = w' := by
  have HP := Lib.hid h
  have hlen := h.1
  clear h
  go_enter Try.func25, Try.ntmps25
  go_wp2_with fail
  go_loopw [3] (fun i wr => ∃ j : Nat, j ≤ n ∧ i = .int .i64 (j : Int) ∧ (l.take j).all Rp.fewR = true ∧ w = wr) (fun i _ => n - (intOf i).toNat)
  case atStart => exact ⟨0, by omega, rfl, by simp, rfl⟩
  case round =>
    obtain ⟨j, hj, rfl, hall, rfl⟩ := hrel
    by_cases hlt : j < n
    · obtain ⟨b, off, rfl, hb, x0, -, -, -, -, -, -⟩ := HP.out.row hlt
      obtain ⟨r, hr⟩ : ∃ r, l.getD j default = r := ⟨_, rfl⟩
      rw [hr] at x0
      have HA := Lib.hid (And.intro hall hr)
      have hl : j < l.length := by omega
      have i1 : (0 : Int) ≤ j := by omega
      have i2 : (j : Int) < n := by omega
      clear hall hr
      by_cases h60 : r.p.k.size ≤ 60
      · have q1 : ¬ (60 : Int) < r.p.k.size := by omega
        have HR := Lib.hid (show Rp.fewR r = true from decide_eq_true h60)
        clear h60
        go_wp2_with fail
        refine ⟨⟨j + 1, by omega, by go_num, all_snoc hl HA.out.1 (by rw [HA.out.2]; exact HR.out), trivial⟩, by simp [intOf]; omega⟩
      · have q1 : (60 : Int) < r.p.k.size := by omega
        have HR := Lib.hid (all_not (f := Rp.fewR) hl (by rw [HA.out.2]; exact decide_eq_false h60))
        clear h60
        go_wp2_with fail
        go_ret
        exact ⟨by rw [HR.out]; rfl, rfl⟩
    · obtain rfl : j = n := by omega
      rw [List.take_of_length_le (by omega)] at hall
      have HA := Lib.hid hall
      clear hall
      go_wp2_with fail
      go_ret
      exact ⟨by rw [HA.out]; rfl, rfl⟩
def Rp.fewP (r : Pn) : Bool := decide (r.k.size ≤ 60)
set_option maxRecDepth 100000 in
set_option maxHeartbeats 1000000 in
theorem fewP_any (n c B : Nat) (A : Option Addr) (l : List Pn) (w : World) (h : PansIn w B A n l) (hn : n ≤ 80) : Calls Try.prog 26 #[.slice A n c] w fun e w' => e = .returned (.bool (l.all Rp.fewP)) ∧ w = w' := by
  have HP := Lib.hid h
  have hlen := h.1
  clear h
  go_enter Try.func26, Try.ntmps26
  go_wp2_with fail
  go_loopw [3] (fun i wr => ∃ j : Nat, j ≤ n ∧ i = .int .i64 (j : Int) ∧ (l.take j).all Rp.fewP = true ∧ w = wr) (fun i _ => n - (intOf i).toNat)
  case atStart => exact ⟨0, by omega, rfl, by simp, rfl⟩
  case round =>
    obtain ⟨j, hj, rfl, hall, rfl⟩ := hrel
    by_cases hlt : j < n
    · obtain ⟨b, off, rfl, hb, x0, -, -⟩ := HP.out.pan hlt
      obtain ⟨r, hr⟩ : ∃ r, l.getD j default = r := ⟨_, rfl⟩
      rw [hr] at x0
      have HA := Lib.hid (And.intro hall hr)
      have hl : j < l.length := by omega
      have i1 : (0 : Int) ≤ j := by omega
      have i2 : (j : Int) < n := by omega
      clear hall hr
      by_cases h60 : r.k.size ≤ 60
      · have q1 : ¬ (60 : Int) < r.k.size := by omega
        have HR := Lib.hid (show Rp.fewP r = true from decide_eq_true h60)
        clear h60
        go_wp2_with fail
        refine ⟨⟨j + 1, by omega, by go_num, all_snoc hl HA.out.1 (by rw [HA.out.2]; exact HR.out), trivial⟩, by simp [intOf]; omega⟩
      · have q1 : (60 : Int) < r.k.size := by omega
        have HR := Lib.hid (all_not (f := Rp.fewP) hl (by rw [HA.out.2]; exact decide_eq_false h60))
        clear h60
        go_wp2_with fail
        go_ret
        exact ⟨by rw [HR.out]; rfl, rfl⟩
    · obtain rfl : j = n := by omega
      rw [List.take_of_length_le (by omega)] at hall
      have HA := Lib.hid hall
      clear hall
      go_wp2_with fail
      go_ret
      exact ⟨by rw [HA.out]; rfl, rfl⟩
def Rp.few (x : Rp.V) (rows : List Rw) (gone : List Pn) : Bool := decide (x.n ≤ 80) && decide (x.m ≤ 80) && rows.all Rp.fewR && gone.all Rp.fewP
theorem Rp.few_is {x : Rp.V} {rows : List Rw} {gone : List Pn} (h : Rp.few x rows gone = true) : x.n ≤ 80 ∧ x.m ≤ 80 ∧ (∀ r ∈ rows, r.p.k.size ≤ 60) ∧ ∀ r ∈ gone, r.k.size ≤ 60 := by
  unfold Rp.few at h
  simp only [Bool.and_eq_true, List.all_eq_true, decide_eq_true_iff] at h
  exact ⟨h.1.1.1, h.1.1.2, fun r hr => of_decide_eq_true (h.1.2 r hr), fun r hr => of_decide_eq_true (h.2 r hr)⟩
set_option maxRecDepth 100000 in
set_option maxHeartbeats 2000000 in
theorem fewRep_any (x : Rp.V) (rows : List Rw) (gone : List Pn) (B : Nat) (w : World) (hx : x.In w B rows gone) (hB : B ≤ w.heap.size) : Calls Try.prog 7 #[x.val] w fun e w' => e = .returned (.bool (Rp.few x rows gone)) ∧ Below w.heap.size w w' := by
  have S0 := (Held.start w).new x.cells 28
  have HS := Lib.hid S0
  have CR : Hid (∀ W, x.n ≤ 80 → Below w.heap.size w W → Calls Try.prog 25 #[.slice x.A x.n x.c] W fun e w' => e = .returned (.bool (rows.all Rp.fewR)) ∧ W = w') := Lib.hid fun W hn hW => fewR_any x.n x.c B x.A rows W (hx.1.below hW hB) hn
  have CP : Hid (∀ W, x.m ≤ 80 → Below w.heap.size w W → Calls Try.prog 26 #[.slice x.G x.m x.d] W fun e w' => e = .returned (.bool (gone.all Rp.fewP)) ∧ W = w') := Lib.hid fun W hn hW => fewP_any x.m x.d B x.G gone W (hx.2.below hW hB) hn
  unfold Rp.few
  obtain ⟨b3, h3⟩ : ∃ b, rows.all Rp.fewR = b := ⟨_, rfl⟩
  obtain ⟨b4, h4⟩ : ∃ b, gone.all Rp.fewP = b := ⟨_, rfl⟩
  rw [h3] at CR ⊢
  rw [h4] at CP ⊢
  clear S0 hx hB h3 h4
  obtain ⟨k, id, code, last, ep, fl, un, le, st, ti, A, n, c, G, m, d⟩ := x
  unfold Rp.V.val at *
  unfold Rp.V.cells at *
  dsimp only at *
  by_cases h1 : n ≤ 80
  rotate_left
  · have q : ¬ (n : Int) ≤ 80 := by omega
    have e1 : decide (n ≤ 80) = false := decide_eq_false h1
    rw [e1]
    clear h1 e1
    go_enter Try.func7, Try.ntmps7
    go_wp2_with fail
    go_ret
    exact ⟨rfl, HS.out.1⟩
  by_cases h2 : m ≤ 80
  rotate_left
  · have q : (n : Int) ≤ 80 := by omega
    have q2 : decide ((m : Int) ≤ 80) = false := decide_eq_false (by omega)
    have e1 : decide (n ≤ 80) = true := decide_eq_true h1
    have e2 : decide (m ≤ 80) = false := decide_eq_false h2
    rw [e1, e2]
    clear h1 h2 e1 e2
    go_enter Try.func7, Try.ntmps7
    go_wp2_with fail
    go_ret
    exact ⟨rfl, HS.out.1⟩
  have q : (n : Int) ≤ 80 := by omega
  have q2 : decide ((m : Int) ≤ 80) = true := decide_eq_true (by omega)
  have e1 : decide (n ≤ 80) = true := decide_eq_true h1
  have e2 : decide (m ≤ 80) = true := decide_eq_true h2
  rw [e1, e2]
  have HH := Lib.hid (And.intro h1 h2)
  clear h1 h2 e1 e2
  cases b3
  · go_enter Try.func7, Try.ntmps7
    go_wp2_with fail
    refine (CR.out _ HH.out.1 HS.out.1).mono ?_
    rintro e w1 ⟨rfl, rfl⟩
    go_wp2_with fail
    go_ret
    exact ⟨rfl, HS.out.1⟩
  · go_enter Try.func7, Try.ntmps7
    go_wp2_with fail
    refine (CR.out _ HH.out.1 HS.out.1).mono ?_
    rintro e w1 ⟨rfl, rfl⟩
    go_wp2_with fail
    refine (CP.out _ HH.out.2 HS.out.1).mono ?_
    rintro e w1 ⟨rfl, rfl⟩
    go_wp2_with fail
    go_ret
    exact ⟨by cases b4 <;> rfl, HS.out.1⟩
end Go.Proofs.Ytbdalpfpkofmlaa
