/- Layer 8, the program: Right. -/
import Derived.Test.YtognlgklepgemaaGreatRpH
namespace Go.Proofs.YtognlgklepgemaaGreat
open Go.ChangeShapes Go.WideShapes Go.ChangeAt Go.RowKit

set_option maxRecDepth 100000 in
theorem wrongPane_any (p : Pn) (w : World) : Calls Tryz.prog 46 #[.agg #[.string p.k, .int .i64 p.s, .int .i64 p.e]] w fun e w' => e = .returned (.bool (!Rp.name p)) ∧ Below w.heap.size w w' := by
  have hb : ∀ (o : Obj), Below w.heap.size w (w.alloc o) := fun o => (Below.refl _ _).alloc (Nat.le_refl _) _
  have HB := Lib.hid hb
  clear hb
  obtain ⟨k, s, e⟩ := p
  by_cases h0 : k.size = 0
  · obtain rfl : k = ⟨#[]⟩ := ByteArray.ext (Array.eq_empty_of_size_eq_zero h0)
    have e1 : (!Rp.name ⟨⟨#[]⟩, s, e⟩) = true := by rw [Bool.not_eq_true']; exact decide_eq_false (fun h => absurd h.1 (show ¬ 1 ≤ (⟨#[]⟩ : ByteArray).size by decide))
    rw [e1]
    clear e1
    go_enter Tryz.func46, Tryz.ntmps46
    go_wp2_with fail
    go_ret
    exact ⟨rfl, HB.out _⟩
  · have q1 : ¬ k.toList = [] := by
      intro h
      rw [ByteArray.toList_eq] at h
      exact h0 (by rw [show k.size = k.data.toList.length from by simp, h]; rfl)
    have q2 : k.toList.isEmpty = false := by
      rw [Bool.eq_false_iff]
      intro h
      exact q1 (List.isEmpty_iff.1 h)
    by_cases h2 : k.size ≤ 32
    · have e1 : (!Rp.name ⟨k, s, e⟩) = false := by rw [Bool.not_eq_false']; exact decide_eq_true ⟨by dsimp only; omega, h2⟩
      rw [e1]
      have d2 : decide ((k.size : Int) > 32) = false := decide_eq_false (by omega)
      have d3 : decide ((32 : Int) < k.size) = false := decide_eq_false (by omega)
      clear e1
      go_enter Tryz.func46, Tryz.ntmps46
      go_wp2_with fail
      go_ret
      exact ⟨rfl, HB.out _⟩
    · have e1 : (!Rp.name ⟨k, s, e⟩) = true := by rw [Bool.not_eq_true']; exact decide_eq_false (fun h => h2 h.2)
      rw [e1]
      have d2 : decide ((k.size : Int) > 32) = true := decide_eq_true (by omega)
      have d3 : decide ((32 : Int) < k.size) = true := decide_eq_true (by omega)
      clear e1
      go_enter Tryz.func46, Tryz.ntmps46
      go_wp2_with fail
      go_ret
      exact ⟨rfl, HB.out _⟩
set_option maxRecDepth 100000 in
set_option maxHeartbeats 1000000 in
theorem wrongRow_any (r : Rw) (w : World) : Calls Tryz.prog 44 #[rowV r] w fun e w' => e = .returned (.bool (!Rp.rowRight r)) ∧ Below w.heap.size w w' := by
  have S0 := (Held.start w).new #[.string r.p.k, .int .i64 r.p.s, .int .i64 r.p.e, .int .i64 r.a.c, .int .i64 r.a.s, .int .i64 r.a.lo, .int .i64 r.a.hi] 49
  have HS := Lib.hid S0
  clear S0
  obtain ⟨b1, h1⟩ : ∃ b, Rp.name r.p = b := ⟨_, rfl⟩
  obtain ⟨b2, h2⟩ : ∃ b, Ag.blank r.a = b := ⟨_, rfl⟩
  obtain ⟨b3, h3⟩ : ∃ b, Ag.right r.a = b := ⟨_, rfl⟩
  have hres : (!Rp.rowRight r) = (!b1 || b2 || !b3) := by
    unfold Rp.rowRight
    rw [h1, h2, h3]
    cases b1 <;> cases b2 <;> cases b3 <;> rfl
  rw [hres]
  have CP : Hid (∀ W, Calls Tryz.prog 46 #[.agg #[.string r.p.k, .int .i64 r.p.s, .int .i64 r.p.e]] W fun e w' => e = .returned (.bool (!b1)) ∧ Below W.heap.size W w') := Lib.hid fun W => by rw [← h1]; exact wrongPane_any r.p W
  have CB : Hid (∀ W, Calls Tryz.prog 72 #[.agg #[.int .i64 r.a.c, .int .i64 r.a.s, .int .i64 r.a.lo, .int .i64 r.a.hi]] W fun e w' => e = .returned (.bool b2) ∧ Below W.heap.size W w') := Lib.hid fun W => by rw [← h2]; exact blank_any r.a W
  have CR : Hid (∀ W, Calls Tryz.prog 73 #[.agg #[.int .i64 r.a.c, .int .i64 r.a.s, .int .i64 r.a.lo, .int .i64 r.a.hi]] W fun e w' => e = .returned (.bool b3) ∧ Below W.heap.size W w') := Lib.hid fun W => by rw [← h3]; exact right_any r.a W
  clear hres h1 h2 h3
  unfold rowV
  obtain ⟨⟨k, s, e⟩, ⟨c, t, lo, hi⟩⟩ := r
  dsimp only at *
  go_enter Tryz.func44, Tryz.ntmps44
  go_wp2_with fail
  refine (CP.out _).mono ?_
  rintro e w1 ⟨rfl, p1⟩
  have H1 := Lib.hid (HS.out.step p1)
  have kk := H1.out.top
  have c3 := kk.cell 3
  have c4 := kk.cell 4
  have c5 := kk.cell 5
  have c6 := kk.cell 6
  clear p1 kk
  cases b1
  · go_wp2_with fail
    go_ret
    exact ⟨rfl, H1.out.1⟩
  · go_wp2_with fail
    refine (CB.out _).mono ?_
    rintro e w2 ⟨rfl, p2⟩
    have H2 := Lib.hid (H1.out.step p2)
    have kk := H2.out.top
    have e3 := kk.cell 3
    have e4 := kk.cell 4
    have e5 := kk.cell 5
    have e6 := kk.cell 6
    clear p2 kk c3 c4 c5 c6
    cases b2
    · go_wp2_with fail
      refine (CR.out _).mono ?_
      rintro e w3 ⟨rfl, p3⟩
      have H3 := Lib.hid (H2.out.step p3)
      clear p3
      go_wp2_with fail
      go_ret
      exact ⟨by cases b3 <;> rfl, H3.out.1⟩
    · go_wp2_with fail
      go_ret
      exact ⟨rfl, H2.out.1⟩
theorem lt_snoc0 (z : Int) (b : Bool) (h : decide (0 ≤ z) = b) : (decide (z ≥ 0)) = b := h
set_option maxRecDepth 100000 in
set_option maxHeartbeats 2000000 in
theorem indexRow_any (n c B : Nat) (A : Option Addr) (l : List Rw) (w : World) (h : RowsIn w B A n l) (hB : B ≤ w.heap.size) (hn : n ≤ 1000000) :
    Calls Tryz.prog 71 #[.slice A n c, .func (.func 44) #[] #[]] w fun e w' => (∃ z : Int, e = .returned (.int .i64 z) ∧ decide (0 ≤ z) = !l.all Rp.rowRight) ∧ Below w.heap.size w w' := by
  have HP := Lib.hid (And.intro h hB)
  clear h hB
  go_enter Tryz.func71, Tryz.ntmps71
  go_wp2_with fail
  go_loopw [8] (fun i wr => ∃ j : Nat, j ≤ n ∧ i = .int .i64 (j : Int) ∧ (l.take j).all Rp.rowRight = true ∧ Below w.heap.size w wr) (fun i _ => n - (intOf i).toNat)
  case atStart => exact ⟨0, by omega, rfl, by simp, Below.refl _ _⟩
  case round =>
    obtain ⟨j, hj, rfl, hall, hb⟩ := hrel
    by_cases hlt : j < n
    · obtain ⟨b, off, rfl, hbB, x0, x1, x2, x3, x4, x5, x6⟩ := HP.out.1.row hlt
      have hz : b < w.heap.size := by have := HP.out.2; omega
      obtain ⟨r, hr⟩ : ∃ r, l.getD j default = r := ⟨_, rfl⟩
      rw [hr] at x0 x1 x2 x3 x4 x5 x6
      have d0 := (hb.cell (p := ⟨b, _, none⟩) hz).trans x0
      have d1 := (hb.cell (p := ⟨b, _, none⟩) hz).trans x1
      have d2 := (hb.cell (p := ⟨b, _, none⟩) hz).trans x2
      have d3 := (hb.cell (p := ⟨b, _, none⟩) hz).trans x3
      have d4 := (hb.cell (p := ⟨b, _, none⟩) hz).trans x4
      have d5 := (hb.cell (p := ⟨b, _, none⟩) hz).trans x5
      have d6 := (hb.cell (p := ⟨b, _, none⟩) hz).trans x6
      have HB := Lib.hid (And.intro hb (And.intro hall hr))
      have hl : j < l.length := by rw [HP.out.1.1]; exact hlt
      have i1 : (0 : Int) ≤ j := by omega
      have i2 : (j : Int) < n := by omega
      clear x0 x1 x2 x3 x4 x5 x6 hb hall hr
      go_wp2_with fail
      clear d0 d1 d2 d3 d4 d5 d6
      refine (wrongRow_any r _).mono ?_
      rintro e w2 ⟨rfl, b2⟩
      have H2 := Lib.hid (below_next HB.out.1 b2)
      clear b2
      cases hq : Rp.rowRight r
      · have HQ := Lib.hid hq
        clear hq
        go_wp2_with fail
        go_ret
        exact ⟨⟨j, rfl, by rw [all_not (f := Rp.rowRight) hl (by rw [HB.out.2.2]; exact HQ.out)]; exact decide_eq_true i1⟩, H2.out⟩
      · have HQ := Lib.hid hq
        clear hq
        go_wp2_with fail
        refine ⟨⟨j + 1, by omega, by go_num, ?_, H2.out⟩, by simp [intOf]; omega⟩
        rw [all_take hl HB.out.2.1, HB.out.2.2]
        exact HQ.out
    · obtain rfl : j = n := by omega
      rw [List.take_of_length_le (by rw [HP.out.1.1]; exact Nat.le_refl _)] at hall
      have HB := Lib.hid (And.intro hb hall)
      clear hb hall
      go_wp2_with fail
      go_ret
      exact ⟨⟨-1, rfl, by rw [HB.out.2]; rfl⟩, HB.out.1⟩
set_option maxRecDepth 100000 in
theorem containsRow_any (n c B : Nat) (A : Option Addr) (l : List Rw) (w : World) (h : RowsIn w B A n l) (hB : B ≤ w.heap.size) (hn : n ≤ 1000000) :
    Calls Tryz.prog 43 #[.slice A n c, .func (.func 44) #[] #[]] w fun e w' => e = .returned (.bool (!l.all Rp.rowRight)) ∧ Below w.heap.size w w' := by
  have HP := Lib.hid (And.intro h hB)
  obtain ⟨b, hb⟩ : ∃ b, l.all Rp.rowRight = b := ⟨_, rfl⟩
  rw [hb]
  have HBB := Lib.hid hb
  clear h hB hb
  go_enter Tryz.func43, Tryz.ntmps43
  go_wp2_with fail
  refine (indexRow_any n c B A l _ HP.out.1 HP.out.2 hn).mono ?_
  rintro e w1 ⟨⟨z, rfl, hz⟩, b1⟩
  rw [HBB.out] at hz
  have H := Lib.hid (And.intro hz b1)
  clear b1
  clear hz
  go_wp2_with fail
  go_ret
  exact ⟨congrArg (fun q => Ending.returned (.bool q)) H.out.1, H.out.2⟩
set_option maxRecDepth 100000 in
set_option maxHeartbeats 2000000 in
theorem indexPan_any (n c B : Nat) (A : Option Addr) (l : List Pn) (w : World) (h : PansIn w B A n l) (hB : B ≤ w.heap.size) (hn : n ≤ 1000000) :
    Calls Tryz.prog 74 #[.slice A n c, .func (.func 46) #[] #[]] w fun e w' => (∃ z : Int, e = .returned (.int .i64 z) ∧ decide (0 ≤ z) = !l.all Rp.name) ∧ Below w.heap.size w w' := by
  have HP := Lib.hid (And.intro h hB)
  clear h hB
  go_enter Tryz.func74, Tryz.ntmps74
  go_wp2_with fail
  go_loopw [8] (fun i wr => ∃ j : Nat, j ≤ n ∧ i = .int .i64 (j : Int) ∧ (l.take j).all Rp.name = true ∧ Below w.heap.size w wr) (fun i _ => n - (intOf i).toNat)
  case atStart => exact ⟨0, by omega, rfl, by simp, Below.refl _ _⟩
  case round =>
    obtain ⟨j, hj, rfl, hall, hb⟩ := hrel
    by_cases hlt : j < n
    · obtain ⟨b, off, rfl, hbB, x0, x1, x2⟩ := HP.out.1.pan hlt
      have hz : b < w.heap.size := by have := HP.out.2; omega
      obtain ⟨r, hr⟩ : ∃ r, l.getD j default = r := ⟨_, rfl⟩
      rw [hr] at x0 x1 x2
      have d0 := (hb.cell (p := ⟨b, _, none⟩) hz).trans x0
      have d1 := (hb.cell (p := ⟨b, _, none⟩) hz).trans x1
      have d2 := (hb.cell (p := ⟨b, _, none⟩) hz).trans x2
      have HB := Lib.hid (And.intro hb (And.intro hall hr))
      have hl : j < l.length := by rw [HP.out.1.1]; exact hlt
      have i1 : (0 : Int) ≤ j := by omega
      have i2 : (j : Int) < n := by omega
      clear x0 x1 x2 hb hall hr
      go_wp2_with fail
      clear d0 d1 d2
      refine (wrongPane_any r _).mono ?_
      rintro e w2 ⟨rfl, b2⟩
      have H2 := Lib.hid (below_next HB.out.1 b2)
      clear b2
      cases hq : Rp.name r
      · have HQ := Lib.hid hq
        clear hq
        go_wp2_with fail
        go_ret
        exact ⟨⟨j, rfl, by rw [all_not (f := Rp.name) hl (by rw [HB.out.2.2]; exact HQ.out)]; exact decide_eq_true i1⟩, H2.out⟩
      · have HQ := Lib.hid hq
        clear hq
        go_wp2_with fail
        refine ⟨⟨j + 1, by omega, by go_num, ?_, H2.out⟩, by simp [intOf]; omega⟩
        rw [all_take hl HB.out.2.1, HB.out.2.2]
        exact HQ.out
    · obtain rfl : j = n := by omega
      rw [List.take_of_length_le (by rw [HP.out.1.1]; exact Nat.le_refl _)] at hall
      have HB := Lib.hid (And.intro hb hall)
      clear hb hall
      go_wp2_with fail
      go_ret
      exact ⟨⟨-1, rfl, by rw [HB.out.2]; rfl⟩, HB.out.1⟩
set_option maxRecDepth 100000 in
theorem containsPan_any (n c B : Nat) (A : Option Addr) (l : List Pn) (w : World) (h : PansIn w B A n l) (hB : B ≤ w.heap.size) (hn : n ≤ 1000000) :
    Calls Tryz.prog 45 #[.slice A n c, .func (.func 46) #[] #[]] w fun e w' => e = .returned (.bool (!l.all Rp.name)) ∧ Below w.heap.size w w' := by
  have HP := Lib.hid (And.intro h hB)
  obtain ⟨b, hb⟩ : ∃ b, l.all Rp.name = b := ⟨_, rfl⟩
  rw [hb]
  have HBB := Lib.hid hb
  clear h hB hb
  go_enter Tryz.func45, Tryz.ntmps45
  go_wp2_with fail
  refine (indexPan_any n c B A l _ HP.out.1 HP.out.2 hn).mono ?_
  rintro e w1 ⟨⟨z, rfl, hz⟩, b1⟩
  rw [HBB.out] at hz
  have H := Lib.hid (And.intro hz b1)
  clear b1
  clear hz
  go_wp2_with fail
  go_ret
  exact ⟨congrArg (fun q => Ending.returned (.bool q)) H.out.1, H.out.2⟩
set_option maxRecDepth 100000 in
set_option maxHeartbeats 4000000 in
theorem pRight8_any (x : Rp.V) (rows : List Rw) (gone : List Pn) (B : Nat) (w : World) (hx : x.In w B rows gone) (hB : B ≤ w.heap.size) (ok : x.ok) (hn : x.n ≤ 1000) (hm : x.m ≤ 1000) :
    Calls Tryz.prog 19 #[x.val] w fun e w' => e = .returned (.bool (x.right rows gone)) ∧ Below w.heap.size w w' := by
  have S0 := (Held.start w).new x.cells 28
  have HS := Lib.hid S0
  obtain ⟨b1, h1⟩ : ∃ b, ((Rp.parts x.k).foldl Rp.V.blank x).bare = b := ⟨_, rfl⟩
  obtain ⟨b2, h2⟩ : ∃ b, rows.all Rp.rowRight = b := ⟨_, rfl⟩
  obtain ⟨b3, h3⟩ : ∃ b, gone.all Rp.name = b := ⟨_, rfl⟩
  obtain ⟨kd, hkd⟩ : ∃ b, x.kind = b := ⟨_, rfl⟩
  have hres : x.right rows gone = (kd && b2 && b3 && b1) := by
    unfold Rp.V.right
    rw [hkd, h1, h2, h3]
  rw [hres]
  have CK : Hid (∀ W, Calls Tryz.prog 41 #[.int .u8 (x.k : Int)] W fun e w' => e = .returned (.bool (Rp.isK x.k)) ∧ W = w') := Lib.hid fun W => isKind_any x.k W ok.1
  have CN : Hid (∀ W, Below w.heap.size w W → Calls Tryz.prog 42 #[x.val] W fun e w' => e = .returned (.bool b1) ∧ Below W.heap.size W w') := Lib.hid fun W hW => by
    rw [← h1]
    exact hasNoOther_any x B W ⟨ok, hn, hm, rows, gone, hx.below hW hB⟩ (Nat.le_trans hB hW.size)
  have CR : Hid (∀ W, Below w.heap.size w W → Calls Tryz.prog 43 #[.slice x.A x.n x.c, .func (.func 44) #[] #[]] W fun e w' => e = .returned (.bool (!b2)) ∧ Below W.heap.size W w') := Lib.hid fun W hW => by
    rw [← h2]
    exact containsRow_any x.n x.c B x.A rows W (hx.1.below hW hB) (Nat.le_trans hB hW.size) (by omega)
  have CP : Hid (∀ W, Below w.heap.size w W → Calls Tryz.prog 45 #[.slice x.G x.m x.d, .func (.func 46) #[] #[]] W fun e w' => e = .returned (.bool (!b3)) ∧ Below W.heap.size W w') := Lib.hid fun W hW => by
    rw [← h3]
    exact containsPan_any x.m x.d B x.G gone W (hx.2.below hW hB) (Nat.le_trans hB hW.size) (by omega)
  clear S0 h1 h2 h3 hres hx hB
  have hk := ok.1
  clear ok
  have RC : Hid (∀ W, Held w W [(w.heap.size, 28, x.cells)] → RepCells W w.heap.size x) := Lib.hid fun W hW => (rep_cells hW.top).1
  obtain ⟨k, id, code, last, ep, fl, un, le, st, ti, A, n, c, G, m, d⟩ := x
  unfold Rp.V.val Rp.V.kind RepCells at *
  unfold Rp.V.cells at *
  dsimp only at *
  by_cases hK : Rp.isK k = true
  · have hk17 : 1 ≤ k ∧ k ≤ 7 := of_decide_eq_true hK
    rw [hK] at CK
    by_cases h70 : k = 7 ∧ code = 0
    · obtain rfl : kd = false := by rw [← hkd]; exact decide_eq_false (fun h => h.2.2.1 h70)
      obtain ⟨rfl, rfl⟩ := h70
      clear hkd hk17 hK hk
      go_enter Tryz.func19, Tryz.ntmps19
      go_wp2_with fail
      refine (CK.out _).mono ?_
      rintro e w1 ⟨rfl, rfl⟩
      go_wp2_with fail
      go_ret
      exact ⟨rfl, HS.out.1⟩
    · by_cases hnm : n + m ≤ 64
      · obtain rfl : kd = true := by rw [← hkd]; exact decide_eq_true ⟨hk17.1, hk17.2, h70, hnm⟩
        have q1 : ¬ (64 : Int) < (n : Int) + m := by omega
        have q2 : decide ((64 : Int) < (n : Int) + m) = false := decide_eq_false q1
        have q3 : IntKind.i64.wrap ((n : Int) + m) = (n : Int) + m := by rw [IntKind.wrap_i64]; omega
        clear hkd hk17 hK hnm
        have h7c : (k ≠ 7) ∨ (k = 7 ∧ code ≠ 0) := by omega
        clear h70
        have hk7 : ((k : Int) == 7) = decide (k = 7) := by rw [Bool.eq_iff_iff, beq_iff_eq, decide_eq_true_iff]; omega
        have hc0 : ((code : Int) == 0) = decide (code = 0) := by rw [Bool.eq_iff_iff, beq_iff_eq, decide_eq_true_iff]; omega
        rcases h7c with h7 | ⟨h7, hc⟩
        · rw [decide_eq_false h7] at hk7
          clear h7 hc0
          go_enter Tryz.func19, Tryz.ntmps19
          go_wp2_with fail
          refine (CK.out _).mono ?_
          rintro e w1 ⟨rfl, rfl⟩
          go_wp2_with fail
          refine (CN.out _ HS.out.1).mono ?_
          rintro e w2 ⟨rfl, p2⟩
          have H2 := Lib.hid (HS.out.step p2)
          obtain ⟨-, -, -, -, -, -, -, -, -, -, d10, d11⟩ := RC.out _ H2.out
          clear p2
          cases b1
          · go_wp2_with fail
            go_ret
            exact ⟨by cases b2 <;> cases b3 <;> rfl, H2.out.1⟩
          · go_wp2_with fail
            refine (CR.out _ H2.out.1).mono ?_
            rintro e w3 ⟨rfl, p3⟩
            have H3 := Lib.hid (H2.out.step p3)
            obtain ⟨-, -, -, -, -, -, -, -, -, -, e10, e11⟩ := RC.out _ H3.out
            clear p3 d10 d11
            cases b2
            · go_wp2_with fail
              go_ret
              exact ⟨by cases b3 <;> rfl, H3.out.1⟩
            · go_wp2_with fail
              refine (CP.out _ H3.out.1).mono ?_
              rintro e w4 ⟨rfl, p4⟩
              have H4 := Lib.hid (H3.out.step p4)
              clear p4
              go_wp2_with fail
              go_ret
              exact ⟨by cases b3 <;> rfl, H4.out.1⟩
        · rw [decide_eq_true h7] at hk7
          rw [decide_eq_false hc] at hc0
          clear h7 hc
          go_enter Tryz.func19, Tryz.ntmps19
          go_wp2_with fail
          refine (CK.out _).mono ?_
          rintro e w1 ⟨rfl, rfl⟩
          go_wp2_with fail
          refine (CN.out _ HS.out.1).mono ?_
          rintro e w2 ⟨rfl, p2⟩
          have H2 := Lib.hid (HS.out.step p2)
          obtain ⟨-, -, -, -, -, -, -, -, -, -, d10, d11⟩ := RC.out _ H2.out
          clear p2
          cases b1
          · go_wp2_with fail
            go_ret
            exact ⟨by cases b2 <;> cases b3 <;> rfl, H2.out.1⟩
          · go_wp2_with fail
            refine (CR.out _ H2.out.1).mono ?_
            rintro e w3 ⟨rfl, p3⟩
            have H3 := Lib.hid (H2.out.step p3)
            obtain ⟨-, -, -, -, -, -, -, -, -, -, e10, e11⟩ := RC.out _ H3.out
            clear p3 d10 d11
            cases b2
            · go_wp2_with fail
              go_ret
              exact ⟨by cases b3 <;> rfl, H3.out.1⟩
            · go_wp2_with fail
              refine (CP.out _ H3.out.1).mono ?_
              rintro e w4 ⟨rfl, p4⟩
              have H4 := Lib.hid (H3.out.step p4)
              clear p4
              go_wp2_with fail
              go_ret
              exact ⟨by cases b3 <;> rfl, H4.out.1⟩
      · obtain rfl : kd = false := by rw [← hkd]; exact decide_eq_false (fun h => hnm h.2.2.2)
        have q1 : (64 : Int) < (n : Int) + m := by omega
        have q2 : decide ((64 : Int) < (n : Int) + m) = true := decide_eq_true q1
        have q3 : IntKind.i64.wrap ((n : Int) + m) = (n : Int) + m := by rw [IntKind.wrap_i64]; omega
        clear hkd hk17 hK hnm
        have h7c : (k ≠ 7) ∨ (k = 7 ∧ code ≠ 0) := by omega
        clear h70
        have hk7 : ((k : Int) == 7) = decide (k = 7) := by rw [Bool.eq_iff_iff, beq_iff_eq, decide_eq_true_iff]; omega
        have hc0 : ((code : Int) == 0) = decide (code = 0) := by rw [Bool.eq_iff_iff, beq_iff_eq, decide_eq_true_iff]; omega
        rcases h7c with h7 | ⟨h7, hc⟩
        · rw [decide_eq_false h7] at hk7
          clear h7 hc0
          go_enter Tryz.func19, Tryz.ntmps19
          go_wp2_with fail
          refine (CK.out _).mono ?_
          rintro e w1 ⟨rfl, rfl⟩
          go_wp2_with fail
          go_ret
          exact ⟨rfl, HS.out.1⟩
        · rw [decide_eq_true h7] at hk7
          rw [decide_eq_false hc] at hc0
          clear h7 hc
          go_enter Tryz.func19, Tryz.ntmps19
          go_wp2_with fail
          refine (CK.out _).mono ?_
          rintro e w1 ⟨rfl, rfl⟩
          go_wp2_with fail
          go_ret
          exact ⟨rfl, HS.out.1⟩
  · obtain rfl : kd = false := by
      rw [← hkd]
      refine decide_eq_false (fun h => hK (decide_eq_true ⟨h.1, h.2.1⟩))
    rw [Bool.eq_false_iff.2 hK] at CK
    clear hkd hK
    go_enter Tryz.func19, Tryz.ntmps19
    go_wp2_with fail
    refine (CK.out _).mono ?_
    rintro e w1 ⟨rfl, rfl⟩
    go_wp2_with fail
    go_ret
    exact ⟨rfl, HS.out.1⟩
end Go.Proofs.YtognlgklepgemaaGreat
