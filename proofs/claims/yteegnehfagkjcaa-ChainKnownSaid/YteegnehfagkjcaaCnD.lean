/- Layer 15, the reference: Right. Made by tools/gen/cnd.py. -/
import Derived.Test.YteegnehfagkjcaaCnC
import Derived.Deep.RegionHeld3
import Derived.Deep.DeepCutAuto
import Derived.Deep.CutBlock
namespace Go.Proofs.Yteegnehfagkjcaa
open Go.ChangeShapes Go.WideShapes Go.ChangeAt Go.RowKit

theorem Cn.okAt_ref (l : List Cn.Ver) (j : Nat) : Cn.okAt l j = (Cn.one (Cn.ix l j) && (decide (j = 0) || decide ((Cn.ix l (j - 1)).e < (Cn.ix l j).e))) := by
  unfold Cn.okAt Cn.one Cn.prev
  by_cases h : j = 0
  · rw [if_pos h, h]
    simp
  · rw [if_neg h, decide_eq_false h, Bool.false_or]
    show (decide ((Cn.ix l (j - 1)).e < (Cn.ix l j).e) && Cn.vok (Cn.ix l j)) = _
    cases Cn.vok (Cn.ix l j) with
    | false => simp
    | true =>
      rw [Bool.and_true, Bool.and_true, Bool.eq_iff_iff]
      simp
      omega
set_option maxRecDepth 100000 in
set_option maxHeartbeats 4000000 in
theorem refRights_any (w : World) (F : Nat → Prop) (A : Option Addr) (n c : Nat) (l : List Cn.Ver) (h : Cells w F A n 6 (vrL l)) (hn : n ≤ 1000000) : Calls Try.prog 12 #[.slice A n c] w (BoolP w (Cn.right l)) := by
  have hln := vr_len h
  have H := Lib.hid (And.intro h hln)
  clear h hln
  go_enter Try.func12, Try.ntmps12
  go_wp2_with fail
  go_loopw [3] (fun i wr => ∃ j : Nat, j ≤ n ∧ Cn.okTo l j = true ∧ i = .int .i64 (j : Int) ∧ Below w.heap.size w wr) (fun i _ => n - (intOf i).toNat)
  case atStart => exact ⟨0, Nat.zero_le _, rfl, rfl, Below.refl _ _⟩
  case round =>
    obtain ⟨j, hk, hu, rfl, hh⟩ := hrel
    by_cases hlt : j < n
    · have i2 : (0 : Int) ≤ (j : Int) := by omega
      have i3 : (j : Int) < (n : Int) := by omega
      have hko := Cn.okAt_ref l j
      have hsu := Cn.okTo_succ l j
      rw [hu, Bool.true_and] at hsu
      have yhy := Cn.ix_some (l := l) (i := j) (by have := H.out.2; omega)
      obtain ⟨y, yeq⟩ : ∃ y, Cn.ix l j = y := ⟨_, rfl⟩
      rw [yeq] at yhy
      obtain ⟨b, off, rfl, -, yhbl, z0, z1, z2, z3, z4, z5⟩ := vr_cells H.out.1 yhy
      have y0 := (hh.cell (p := ⟨b, off + j * 6, none⟩) yhbl).trans z0
      have y1 := (hh.cell (p := ⟨b, off + j * 6 + 1, none⟩) yhbl).trans z1
      have y2 := (hh.cell (p := ⟨b, off + j * 6 + 2, none⟩) yhbl).trans z2
      have y3 := (hh.cell (p := ⟨b, off + j * 6 + 3, none⟩) yhbl).trans z3
      have y4 := (hh.cell (p := ⟨b, off + j * 6 + 4, none⟩) yhbl).trans z4
      have y5 := (hh.cell (p := ⟨b, off + j * 6 + 5, none⟩) yhbl).trans z5
      clear z0 z1 z2 z3 z4 z5
      rw [yeq] at hko
      have HRT : Hid (∀ X, Calls Try.prog 36 #[.agg #[.int .u64 (y.e : Int), .bool y.d, .int .i64 y.a.c, .int .i64 y.a.s, .int .i64 y.a.lo, .int .i64 y.a.hi]] X (BoolP X (Cn.one y))) := Lib.hid fun X => refRt_any y X
      have D0 : Hid (Below wr.heap.size wr wr.drew) := Lib.hid (Below.refl _ _).drew
      have HC : Hid (∀ X, Below wr.heap.size wr X → (fun X => X.cell? ⟨b, off + j * 6, none⟩ = some (.int .u64 (y.e : Int)) ∧ X.cell? ⟨b, off + j * 6 + 1, none⟩ = some (.bool y.d) ∧ X.cell? ⟨b, off + j * 6 + 2, none⟩ = some (.int .i64 y.a.c) ∧ X.cell? ⟨b, off + j * 6 + 3, none⟩ = some (.int .i64 y.a.s) ∧ X.cell? ⟨b, off + j * 6 + 4, none⟩ = some (.int .i64 y.a.lo) ∧ X.cell? ⟨b, off + j * 6 + 5, none⟩ = some (.int .i64 y.a.hi)) X) := Lib.hid fun X hX => by
        have hbl : b < wr.heap.size := Nat.lt_of_lt_of_le yhbl hh.size
        exact ⟨(hX.cell (p := ⟨b, off + j * 6, none⟩) hbl).trans y0, (hX.cell (p := ⟨b, off + j * 6 + 1, none⟩) hbl).trans y1, (hX.cell (p := ⟨b, off + j * 6 + 2, none⟩) hbl).trans y2, (hX.cell (p := ⟨b, off + j * 6 + 3, none⟩) hbl).trans y3, (hX.cell (p := ⟨b, off + j * 6 + 4, none⟩) hbl).trans y4, (hX.cell (p := ⟨b, off + j * 6 + 5, none⟩) hbl).trans y5⟩
      clear y0 y1 y2 y3 y4 y5 yhy
      by_cases h1 : Cn.one y = true
      · rw [h1] at HRT hko
        rw [Bool.true_and] at hko
        by_cases h0 : j = 0
        · rw [decide_eq_true h0, Bool.true_or] at hko
          rw [hko] at hsu
          have j0 : ¬ (0 : Int) < (j : Int) := by omega
          have j1 : ¬ 0 < j := by omega
          have HK := Lib.hid (And.intro hsu (And.intro hh h1))
          clear hsu hko hh hu yeq hk h1 h0
          go_upto_region 4 with fail
          refine wp_region_held_drew (S := (fun X => X.cell? ⟨b, off + j * 6, none⟩ = some (.int .u64 (y.e : Int)) ∧ X.cell? ⟨b, off + j * 6 + 1, none⟩ = some (.bool y.d) ∧ X.cell? ⟨b, off + j * 6 + 2, none⟩ = some (.int .i64 y.a.c) ∧ X.cell? ⟨b, off + j * 6 + 3, none⟩ = some (.int .i64 y.a.s) ∧ X.cell? ⟨b, off + j * 6 + 4, none⟩ = some (.int .i64 y.a.lo) ∧ X.cell? ⟨b, off + j * 6 + 5, none⟩ = some (.int .i64 y.a.hi))) (by kernel_rfl) (HC.out _ D0.out) (fun hHeld => ?_)
          refine wpAnyH_take (i := 0) (oi := { dst := some 10, op := Op.move (Operand.tmp 0), type := 25, pos := "ref.go:25", after := #[], guard := none }) (v := ?_) rfl (by kernel_rfl) (by kernel_rfl) (by kernel_rfl) (fun _ _ _ h => h) (Or.inl ⟨by rfl, ?_⟩) (by assumption) ?_
          rotate_left
          · intro W hSW; (try dsimp only at hSW); go_simp; try with_reducible rfl
          try simp only [Act.put, List.setIfInBounds_toArray, List.set_cons_zero, List.set_cons_succ]
          refine wpAnyH_take (i := 1) (oi := { dst := some 11, op := Op.move (Operand.tmp 3), type := 3, pos := "ref.go:25", after := #[], guard := none }) (v := ?_) rfl (by kernel_rfl) (by kernel_rfl) (by kernel_rfl) (fun _ _ _ h => h) (Or.inl ⟨by rfl, ?_⟩) (by assumption) ?_
          rotate_left
          · intro W hSW; (try dsimp only at hSW); go_simp; try with_reducible rfl
          try simp only [Act.put, List.setIfInBounds_toArray, List.set_cons_zero, List.set_cons_succ]
          refine wpAnyH_take (i := 2) (oi := { dst := some 12, op := Op.indexAddr 25 (Operand.tmp 10) (Operand.tmp 11), type := 0, pos := "ref.go:25", after := #[{ on := 0, ground := Ground.data }, { on := 1, ground := Ground.data }], guard := none }) (v := ?_) rfl (by kernel_rfl) (by kernel_rfl) (by kernel_rfl) (fun _ _ _ h => h) (Or.inl ⟨by rfl, ?_⟩) (by assumption) ?_
          rotate_left
          · intro W hSW; (try dsimp only at hSW); go_simp; try with_reducible rfl
          try simp only [Act.put, List.setIfInBounds_toArray, List.set_cons_zero, List.set_cons_succ]
          refine wpAnyH_take (i := 3) (oi := { dst := some 13, op := Op.load 46 (Operand.tmp 12), type := 46, pos := "ref.go:25", after := #[{ on := 2, ground := Ground.data }], guard := none }) (v := ?_) rfl (by kernel_rfl) (by kernel_rfl) (by kernel_rfl) (fun _ _ _ h => h) (Or.inl ⟨by rfl, ?_⟩) (by assumption) ?_
          rotate_left
          · intro W hSW; (try dsimp only at hSW); go_simp; try with_reducible rfl
          try simp only [Act.put, List.setIfInBounds_toArray, List.set_cons_zero, List.set_cons_succ]
          refine wpAnyH_ready (rs := [4]) (by kernel_rfl) (by simp) ?_
          refine AllReadyH.cons (o := { dst := some 14, op := Op.call { callee := Callee.value (Operand.func 36), args := #[Operand.tmp 13], argTypes := #[46] }, type := 4, pos := "ref.go:25", after := #[{ on := 3, ground := Ground.data }], guard := none }) rfl (fun K hK => ?_) AllReadyH.nil
          go_simp
          go_at_call 36; (with_reducible refine (HRT.out _).mono ?_); rintro e w1 ⟨rfl, b1⟩; have D1 : Hid (Below wr.heap.size wr w1) := Lib.hid (D0.out.trans (b1.mono D0.out.size)); clear b1
          go_wp2_with fail
          refine hK.out _ _ ?_ (fun hHeld => ?_)
          · exact HC.out _ D1.out
          clear hK K
          try simp only [Act.put, List.setIfInBounds_toArray, List.set_cons_zero, List.set_cons_succ]
          refine wpAnyH_take (i := 5) (oi := { dst := some 15, op := Op.unOp UnOp.not 4 (Operand.tmp 14), type := 4, pos := "ref.go:25", after := #[{ on := 4, ground := Ground.data }], guard := none }) (v := ?_) rfl (by kernel_rfl) (by kernel_rfl) (by kernel_rfl) (fun _ _ _ h => h) (Or.inl ⟨by rfl, ?_⟩) (by assumption) ?_
          rotate_left
          · intro W hSW; (try dsimp only at hSW); go_simp; try with_reducible rfl
          try simp only [Act.put, List.setIfInBounds_toArray, List.set_cons_zero, List.set_cons_succ]
          refine wpAnyH_take (i := 6) (oi := { dst := some 16, op := Op.move (Operand.tmp 15), type := 4, pos := "ref.go:25", after := #[{ on := 5, ground := Ground.data }, { on := 4, ground := Ground.chain }], guard := none }) (v := ?_) rfl (by kernel_rfl) (by kernel_rfl) (by kernel_rfl) (fun _ _ _ h => h) (Or.inl ⟨by rfl, ?_⟩) (by assumption) ?_
          rotate_left
          · intro W hSW; (try dsimp only at hSW); go_simp; try with_reducible rfl
          try simp only [Act.put, List.setIfInBounds_toArray, List.set_cons_zero, List.set_cons_succ]
          refine wpAnyH_take (i := 7) (oi := { dst := some 17, op := Op.move (Operand.tmp 3), type := 3, pos := "ref.go:25", after := #[{ on := 6, ground := Ground.guard }], guard := some (6, false) }) (v := ?_) rfl (by kernel_rfl) (by kernel_rfl) (by kernel_rfl) (fun _ _ _ h => h) (Or.inl ⟨by rfl, ?_⟩) (by assumption) ?_
          rotate_left
          · intro W hSW; (try dsimp only at hSW); go_simp; try with_reducible rfl
          try simp only [Act.put, List.setIfInBounds_toArray, List.set_cons_zero, List.set_cons_succ]
          refine wpAnyH_take (i := 8) (oi := { dst := some 18, op := Op.binOp BinOp.gtr 3 (Operand.tmp 17) (Operand.const (Value.int IntKind.i64 0)) 3, type := 4, pos := "ref.go:25", after := #[{ on := 7, ground := Ground.data }, { on := 6, ground := Ground.guard }], guard := some (6, false) }) (v := ?_) rfl (by kernel_rfl) (by kernel_rfl) (by kernel_rfl) (fun _ _ _ h => h) (Or.inl ⟨by rfl, ?_⟩) (by assumption) ?_
          rotate_left
          · intro W hSW; (try dsimp only at hSW); go_simp; try with_reducible rfl
          try simp only [Act.put, List.setIfInBounds_toArray, List.set_cons_zero, List.set_cons_succ]
          refine wpAnyH_take (i := 9) (oi := { dst := some 19, op := Op.move (Operand.tmp 18), type := 4, pos := "ref.go:25", after := #[{ on := 8, ground := Ground.data }, { on := 6, ground := Ground.chain }, { on := 6, ground := Ground.guard }], guard := some (6, false) }) (v := ?_) rfl (by kernel_rfl) (by kernel_rfl) (by kernel_rfl) (fun _ _ _ h => h) (Or.inl ⟨by rfl, ?_⟩) (by assumption) ?_
          rotate_left
          · intro W hSW; (try dsimp only at hSW); go_simp; try with_reducible rfl
          try simp only [Act.put, List.setIfInBounds_toArray, List.set_cons_zero, List.set_cons_succ]
          refine wpAnyH_take (i := 10) (oi := { dst := some 20, op := Op.move (Operand.tmp 0), type := 25, pos := "ref.go:25", after := #[{ on := 9, ground := Ground.guard }], guard := some (9, true) }) (v := undef) rfl (by kernel_rfl) (by kernel_rfl) (by kernel_rfl) (fun _ _ _ h => h) (Or.inr ⟨by rfl, rfl⟩) (by assumption) ?_
          try simp only [Act.put, List.setIfInBounds_toArray, List.set_cons_zero, List.set_cons_succ]
          refine wpAnyH_take (i := 11) (oi := { dst := some 21, op := Op.move (Operand.tmp 3), type := 3, pos := "ref.go:25", after := #[{ on := 9, ground := Ground.guard }], guard := some (9, true) }) (v := undef) rfl (by kernel_rfl) (by kernel_rfl) (by kernel_rfl) (fun _ _ _ h => h) (Or.inr ⟨by rfl, rfl⟩) (by assumption) ?_
          try simp only [Act.put, List.setIfInBounds_toArray, List.set_cons_zero, List.set_cons_succ]
          refine wpAnyH_take (i := 12) (oi := { dst := some 22, op := Op.indexAddr 25 (Operand.tmp 20) (Operand.tmp 21), type := 0, pos := "ref.go:25", after := #[{ on := 10, ground := Ground.data }, { on := 11, ground := Ground.data }, { on := 9, ground := Ground.guard }], guard := some (9, true) }) (v := undef) rfl (by kernel_rfl) (by kernel_rfl) (by kernel_rfl) (fun _ _ _ h => h) (Or.inr ⟨by rfl, rfl⟩) (by assumption) ?_
          try simp only [Act.put, List.setIfInBounds_toArray, List.set_cons_zero, List.set_cons_succ]
          refine wpAnyH_take (i := 13) (oi := { dst := some 23, op := Op.fieldAddr 46 (Operand.tmp 22) 0, type := 0, pos := "ref.go:25", after := #[{ on := 12, ground := Ground.data }, { on := 9, ground := Ground.guard }], guard := some (9, true) }) (v := undef) rfl (by kernel_rfl) (by kernel_rfl) (by kernel_rfl) (fun _ _ _ h => h) (Or.inr ⟨by rfl, rfl⟩) (by assumption) ?_
          try simp only [Act.put, List.setIfInBounds_toArray, List.set_cons_zero, List.set_cons_succ]
          refine wpAnyH_take (i := 14) (oi := { dst := some 24, op := Op.load 23 (Operand.tmp 23), type := 23, pos := "ref.go:25", after := #[{ on := 13, ground := Ground.data }, { on := 9, ground := Ground.guard }], guard := some (9, true) }) (v := undef) rfl (by kernel_rfl) (by kernel_rfl) (by kernel_rfl) (fun _ _ _ h => h) (Or.inr ⟨by rfl, rfl⟩) (by assumption) ?_
          try simp only [Act.put, List.setIfInBounds_toArray, List.set_cons_zero, List.set_cons_succ]
          refine wpAnyH_take (i := 15) (oi := { dst := some 25, op := Op.move (Operand.tmp 0), type := 25, pos := "ref.go:25", after := #[{ on := 9, ground := Ground.guard }], guard := some (9, true) }) (v := undef) rfl (by kernel_rfl) (by kernel_rfl) (by kernel_rfl) (fun _ _ _ h => h) (Or.inr ⟨by rfl, rfl⟩) (by assumption) ?_
          try simp only [Act.put, List.setIfInBounds_toArray, List.set_cons_zero, List.set_cons_succ]
          refine wpAnyH_take (i := 16) (oi := { dst := some 26, op := Op.move (Operand.tmp 3), type := 3, pos := "ref.go:25", after := #[{ on := 9, ground := Ground.guard }], guard := some (9, true) }) (v := undef) rfl (by kernel_rfl) (by kernel_rfl) (by kernel_rfl) (fun _ _ _ h => h) (Or.inr ⟨by rfl, rfl⟩) (by assumption) ?_
          try simp only [Act.put, List.setIfInBounds_toArray, List.set_cons_zero, List.set_cons_succ]
          refine wpAnyH_take (i := 17) (oi := { dst := some 27, op := Op.binOp BinOp.sub 3 (Operand.tmp 26) (Operand.const (Value.int IntKind.i64 1)) 3, type := 3, pos := "ref.go:25", after := #[{ on := 16, ground := Ground.data }, { on := 9, ground := Ground.guard }], guard := some (9, true) }) (v := undef) rfl (by kernel_rfl) (by kernel_rfl) (by kernel_rfl) (fun _ _ _ h => h) (Or.inr ⟨by rfl, rfl⟩) (by assumption) ?_
          try simp only [Act.put, List.setIfInBounds_toArray, List.set_cons_zero, List.set_cons_succ]
          refine wpAnyH_take (i := 18) (oi := { dst := some 28, op := Op.indexAddr 25 (Operand.tmp 25) (Operand.tmp 27), type := 0, pos := "ref.go:25", after := #[{ on := 15, ground := Ground.data }, { on := 17, ground := Ground.data }, { on := 9, ground := Ground.guard }], guard := some (9, true) }) (v := undef) rfl (by kernel_rfl) (by kernel_rfl) (by kernel_rfl) (fun _ _ _ h => h) (Or.inr ⟨by rfl, rfl⟩) (by assumption) ?_
          try simp only [Act.put, List.setIfInBounds_toArray, List.set_cons_zero, List.set_cons_succ]
          refine wpAnyH_take (i := 19) (oi := { dst := some 29, op := Op.fieldAddr 46 (Operand.tmp 28) 0, type := 0, pos := "ref.go:25", after := #[{ on := 18, ground := Ground.data }, { on := 9, ground := Ground.guard }], guard := some (9, true) }) (v := undef) rfl (by kernel_rfl) (by kernel_rfl) (by kernel_rfl) (fun _ _ _ h => h) (Or.inr ⟨by rfl, rfl⟩) (by assumption) ?_
          try simp only [Act.put, List.setIfInBounds_toArray, List.set_cons_zero, List.set_cons_succ]
          refine wpAnyH_take (i := 20) (oi := { dst := some 30, op := Op.load 23 (Operand.tmp 29), type := 23, pos := "ref.go:25", after := #[{ on := 19, ground := Ground.data }, { on := 9, ground := Ground.guard }], guard := some (9, true) }) (v := undef) rfl (by kernel_rfl) (by kernel_rfl) (by kernel_rfl) (fun _ _ _ h => h) (Or.inr ⟨by rfl, rfl⟩) (by assumption) ?_
          try simp only [Act.put, List.setIfInBounds_toArray, List.set_cons_zero, List.set_cons_succ]
          refine wpAnyH_take (i := 21) (oi := { dst := some 31, op := Op.binOp BinOp.leq 23 (Operand.tmp 24) (Operand.tmp 30) 23, type := 4, pos := "ref.go:25", after := #[{ on := 14, ground := Ground.data }, { on := 20, ground := Ground.data }, { on := 9, ground := Ground.guard }], guard := some (9, true) }) (v := undef) rfl (by kernel_rfl) (by kernel_rfl) (by kernel_rfl) (fun _ _ _ h => h) (Or.inr ⟨by rfl, rfl⟩) (by assumption) ?_
          try simp only [Act.put, List.setIfInBounds_toArray, List.set_cons_zero, List.set_cons_succ]
          refine wpAnyH_take (i := 22) (oi := { dst := some 32, op := Op.pick (Operand.tmp 19) (Operand.tmp 31) (Operand.const (Value.bool false)), type := 4, pos := "ref.go:25", after := #[{ on := 9, ground := Ground.data }, { on := 21, ground := Ground.data }, { on := 6, ground := Ground.guard }], guard := some (6, false) }) (v := ?_) rfl (by kernel_rfl) (by kernel_rfl) (by kernel_rfl) (fun _ _ _ h => h) (Or.inl ⟨by rfl, ?_⟩) (by assumption) ?_
          rotate_left
          · intro W hSW; (try dsimp only at hSW); go_simp; try with_reducible rfl
          try simp only [Act.put, List.setIfInBounds_toArray, List.set_cons_zero, List.set_cons_succ]
          refine wpAnyH_take (i := 23) (oi := { dst := some 33, op := Op.pick (Operand.tmp 16) (Operand.const (Value.bool true)) (Operand.tmp 32), type := 4, pos := "ref.go:25", after := #[{ on := 6, ground := Ground.data }, { on := 22, ground := Ground.data }], guard := none }) (v := ?_) rfl (by kernel_rfl) (by kernel_rfl) (by kernel_rfl) (fun _ _ _ h => h) (Or.inl ⟨by rfl, ?_⟩) (by assumption) ?_
          rotate_left
          · intro W hSW; (try dsimp only at hSW); go_simp; try with_reducible rfl
          try simp only [Act.put, List.setIfInBounds_toArray, List.set_cons_zero, List.set_cons_succ]
          refine wpAnyH_done (by kernel_rfl) ?_ _
          go_wp2_with fail
          go_roundw
          case rel => exact ⟨j + 1, by omega, HK.out.1, by go_num, HK.out.2.1.trans (D1.out.mono HK.out.2.1.size)⟩
          case measure => simp [intOf]; omega
        · rw [decide_eq_false h0, Bool.false_or] at hko
          have j0 : (0 : Int) < (j : Int) := by omega
          have j1 : 0 < j := by omega
          have hw1 : IntKind.i64.wrap ((j : Int) - 1) = ((j - 1 : Nat) : Int) := by rw [IntKind.wrap_i64]; omega
          have k2 : (0 : Int) ≤ ((j - 1 : Nat) : Int) := by omega
          have k3 : ((j - 1 : Nat) : Int) < (n : Int) := by omega
          have xhy := Cn.ix_some (l := l) (i := (j - 1)) (by have := H.out.2; omega)
          obtain ⟨v, xeq⟩ : ∃ v, Cn.ix l (j - 1) = v := ⟨_, rfl⟩
          rw [xeq] at xhy
          obtain ⟨bx, offx, ex, -, xhbl, z0, z1, z2, z3, z4, z5⟩ := vr_cells H.out.1 xhy
          obtain ⟨rfl, rfl⟩ : b = bx ∧ off = offx := by injection ex with ex; injection ex with ea eb; exact ⟨ea, eb⟩
          clear ex
          have x0 := (hh.cell (p := ⟨b, off + (j - 1) * 6, none⟩) xhbl).trans z0
          have x1 := (hh.cell (p := ⟨b, off + (j - 1) * 6 + 1, none⟩) xhbl).trans z1
          have x2 := (hh.cell (p := ⟨b, off + (j - 1) * 6 + 2, none⟩) xhbl).trans z2
          have x3 := (hh.cell (p := ⟨b, off + (j - 1) * 6 + 3, none⟩) xhbl).trans z3
          have x4 := (hh.cell (p := ⟨b, off + (j - 1) * 6 + 4, none⟩) xhbl).trans z4
          have x5 := (hh.cell (p := ⟨b, off + (j - 1) * 6 + 5, none⟩) xhbl).trans z5
          clear z0 z1 z2 z3 z4 z5
          rw [xeq] at hko
          have HC2 : Hid (∀ X, Below wr.heap.size wr X → (fun X => X.cell? ⟨b, off + j * 6, none⟩ = some (.int .u64 (y.e : Int)) ∧ X.cell? ⟨b, off + j * 6 + 1, none⟩ = some (.bool y.d) ∧ X.cell? ⟨b, off + j * 6 + 2, none⟩ = some (.int .i64 y.a.c) ∧ X.cell? ⟨b, off + j * 6 + 3, none⟩ = some (.int .i64 y.a.s) ∧ X.cell? ⟨b, off + j * 6 + 4, none⟩ = some (.int .i64 y.a.lo) ∧ X.cell? ⟨b, off + j * 6 + 5, none⟩ = some (.int .i64 y.a.hi) ∧ X.cell? ⟨b, off + (j - 1) * 6, none⟩ = some (.int .u64 (v.e : Int))) X) := Lib.hid fun X hX => by
            obtain ⟨a0, a1, a2, a3, a4, a5⟩ := HC.out X hX
            exact ⟨a0, a1, a2, a3, a4, a5, (hX.cell (p := ⟨b, off + (j - 1) * 6, none⟩) (Nat.lt_of_lt_of_le xhbl hh.size)).trans x0⟩
          have HK := Lib.hid (And.intro hsu (And.intro hko (And.intro hh h1)))
          have HJ := Lib.hid h0
          clear hsu hko hh hu yeq hk h1 h0 x0 x1 x2 x3 x4 x5 xhy xeq
          go_upto_region 4 with fail
          go_region_held3 (fun X => X.cell? ⟨b, off + j * 6, none⟩ = some (.int .u64 (y.e : Int)) ∧ X.cell? ⟨b, off + j * 6 + 1, none⟩ = some (.bool y.d) ∧ X.cell? ⟨b, off + j * 6 + 2, none⟩ = some (.int .i64 y.a.c) ∧ X.cell? ⟨b, off + j * 6 + 3, none⟩ = some (.int .i64 y.a.s) ∧ X.cell? ⟨b, off + j * 6 + 4, none⟩ = some (.int .i64 y.a.lo) ∧ X.cell? ⟨b, off + j * 6 + 5, none⟩ = some (.int .i64 y.a.hi) ∧ X.cell? ⟨b, off + (j - 1) * 6, none⟩ = some (.int .u64 (v.e : Int))) (first | exact HC2.out _ D1.out | exact HC2.out _ D0.out) ((go_at_call 36; (with_reducible refine (HRT.out _).mono ?_); rintro e w1 ⟨rfl, b1⟩; have D1 : Hid (Below wr.heap.size wr w1) := Lib.hid (D0.out.trans (b1.mono D0.out.size)); clear b1))
          by_cases h2 : v.e < y.e
          · have d2 : ¬ (y.e : Int) ≤ (v.e : Int) := by omega
            have HX := Lib.hid h2
            clear h2
            go_wp2_with fail
            go_roundw
            case rel => exact ⟨j + 1, by omega, by rw [HK.out.1, HK.out.2.1, decide_eq_true HX.out], by go_num, HK.out.2.2.1.trans (D1.out.mono HK.out.2.2.1.size)⟩
            case measure => simp [intOf]; omega
          · have d2 : (y.e : Int) ≤ (v.e : Int) := by omega
            have hf : Cn.right l = false := Cn.right_false (i := j) (by have := H.out.2; omega) (by rw [HK.out.2.1, decide_eq_false h2])
            have HF := Lib.hid hf
            clear h2 hf
            go_wp2_with fail
            go_ret
            exact ⟨by rw [HF.out]; rfl, HK.out.2.2.1.trans (D1.out.mono HK.out.2.2.1.size)⟩
      · have h1 := (Bool.not_eq_true _).mp h1
        rw [h1] at HRT hko
        rw [Bool.false_and] at hko
        have hf : Cn.right l = false := Cn.right_false (i := j) (by have := H.out.2; omega) hko
        have HK := Lib.hid (And.intro hf hh)
        clear hsu hko hh hu yeq hk h1 hf
        go_upto_region 4 with fail
        refine wp_region_held_drew (S := (fun X => X.cell? ⟨b, off + j * 6, none⟩ = some (.int .u64 (y.e : Int)) ∧ X.cell? ⟨b, off + j * 6 + 1, none⟩ = some (.bool y.d) ∧ X.cell? ⟨b, off + j * 6 + 2, none⟩ = some (.int .i64 y.a.c) ∧ X.cell? ⟨b, off + j * 6 + 3, none⟩ = some (.int .i64 y.a.s) ∧ X.cell? ⟨b, off + j * 6 + 4, none⟩ = some (.int .i64 y.a.lo) ∧ X.cell? ⟨b, off + j * 6 + 5, none⟩ = some (.int .i64 y.a.hi))) (by kernel_rfl) (HC.out _ D0.out) (fun hHeld => ?_)
        refine wpAnyH_take (i := 0) (oi := { dst := some 10, op := Op.move (Operand.tmp 0), type := 25, pos := "ref.go:25", after := #[], guard := none }) (v := ?_) rfl (by kernel_rfl) (by kernel_rfl) (by kernel_rfl) (fun _ _ _ h => h) (Or.inl ⟨by rfl, ?_⟩) (by assumption) ?_
        rotate_left
        · intro W hSW; (try dsimp only at hSW); go_simp; try with_reducible rfl
        try simp only [Act.put, List.setIfInBounds_toArray, List.set_cons_zero, List.set_cons_succ]
        refine wpAnyH_take (i := 1) (oi := { dst := some 11, op := Op.move (Operand.tmp 3), type := 3, pos := "ref.go:25", after := #[], guard := none }) (v := ?_) rfl (by kernel_rfl) (by kernel_rfl) (by kernel_rfl) (fun _ _ _ h => h) (Or.inl ⟨by rfl, ?_⟩) (by assumption) ?_
        rotate_left
        · intro W hSW; (try dsimp only at hSW); go_simp; try with_reducible rfl
        try simp only [Act.put, List.setIfInBounds_toArray, List.set_cons_zero, List.set_cons_succ]
        refine wpAnyH_take (i := 2) (oi := { dst := some 12, op := Op.indexAddr 25 (Operand.tmp 10) (Operand.tmp 11), type := 0, pos := "ref.go:25", after := #[{ on := 0, ground := Ground.data }, { on := 1, ground := Ground.data }], guard := none }) (v := ?_) rfl (by kernel_rfl) (by kernel_rfl) (by kernel_rfl) (fun _ _ _ h => h) (Or.inl ⟨by rfl, ?_⟩) (by assumption) ?_
        rotate_left
        · intro W hSW; (try dsimp only at hSW); go_simp; try with_reducible rfl
        try simp only [Act.put, List.setIfInBounds_toArray, List.set_cons_zero, List.set_cons_succ]
        refine wpAnyH_take (i := 3) (oi := { dst := some 13, op := Op.load 46 (Operand.tmp 12), type := 46, pos := "ref.go:25", after := #[{ on := 2, ground := Ground.data }], guard := none }) (v := ?_) rfl (by kernel_rfl) (by kernel_rfl) (by kernel_rfl) (fun _ _ _ h => h) (Or.inl ⟨by rfl, ?_⟩) (by assumption) ?_
        rotate_left
        · intro W hSW; (try dsimp only at hSW); go_simp; try with_reducible rfl
        try simp only [Act.put, List.setIfInBounds_toArray, List.set_cons_zero, List.set_cons_succ]
        refine wpAnyH_ready (rs := [4]) (by kernel_rfl) (by simp) ?_
        refine AllReadyH.cons (o := { dst := some 14, op := Op.call { callee := Callee.value (Operand.func 36), args := #[Operand.tmp 13], argTypes := #[46] }, type := 4, pos := "ref.go:25", after := #[{ on := 3, ground := Ground.data }], guard := none }) rfl (fun K hK => ?_) AllReadyH.nil
        go_simp
        go_at_call 36; (with_reducible refine (HRT.out _).mono ?_); rintro e w1 ⟨rfl, b1⟩; have D1 : Hid (Below wr.heap.size wr w1) := Lib.hid (D0.out.trans (b1.mono D0.out.size)); clear b1
        go_wp2_with fail
        refine hK.out _ _ ?_ (fun hHeld => ?_)
        · exact HC.out _ D1.out
        clear hK K
        try simp only [Act.put, List.setIfInBounds_toArray, List.set_cons_zero, List.set_cons_succ]
        refine wpAnyH_take (i := 5) (oi := { dst := some 15, op := Op.unOp UnOp.not 4 (Operand.tmp 14), type := 4, pos := "ref.go:25", after := #[{ on := 4, ground := Ground.data }], guard := none }) (v := ?_) rfl (by kernel_rfl) (by kernel_rfl) (by kernel_rfl) (fun _ _ _ h => h) (Or.inl ⟨by rfl, ?_⟩) (by assumption) ?_
        rotate_left
        · intro W hSW; (try dsimp only at hSW); go_simp; try with_reducible rfl
        try simp only [Act.put, List.setIfInBounds_toArray, List.set_cons_zero, List.set_cons_succ]
        refine wpAnyH_take (i := 6) (oi := { dst := some 16, op := Op.move (Operand.tmp 15), type := 4, pos := "ref.go:25", after := #[{ on := 5, ground := Ground.data }, { on := 4, ground := Ground.chain }], guard := none }) (v := ?_) rfl (by kernel_rfl) (by kernel_rfl) (by kernel_rfl) (fun _ _ _ h => h) (Or.inl ⟨by rfl, ?_⟩) (by assumption) ?_
        rotate_left
        · intro W hSW; (try dsimp only at hSW); go_simp; try with_reducible rfl
        try simp only [Act.put, List.setIfInBounds_toArray, List.set_cons_zero, List.set_cons_succ]
        refine wpAnyH_take (i := 7) (oi := { dst := some 17, op := Op.move (Operand.tmp 3), type := 3, pos := "ref.go:25", after := #[{ on := 6, ground := Ground.guard }], guard := some (6, false) }) (v := undef) rfl (by kernel_rfl) (by kernel_rfl) (by kernel_rfl) (fun _ _ _ h => h) (Or.inr ⟨by rfl, rfl⟩) (by assumption) ?_
        try simp only [Act.put, List.setIfInBounds_toArray, List.set_cons_zero, List.set_cons_succ]
        refine wpAnyH_take (i := 8) (oi := { dst := some 18, op := Op.binOp BinOp.gtr 3 (Operand.tmp 17) (Operand.const (Value.int IntKind.i64 0)) 3, type := 4, pos := "ref.go:25", after := #[{ on := 7, ground := Ground.data }, { on := 6, ground := Ground.guard }], guard := some (6, false) }) (v := undef) rfl (by kernel_rfl) (by kernel_rfl) (by kernel_rfl) (fun _ _ _ h => h) (Or.inr ⟨by rfl, rfl⟩) (by assumption) ?_
        try simp only [Act.put, List.setIfInBounds_toArray, List.set_cons_zero, List.set_cons_succ]
        refine wpAnyH_take (i := 9) (oi := { dst := some 19, op := Op.move (Operand.tmp 18), type := 4, pos := "ref.go:25", after := #[{ on := 8, ground := Ground.data }, { on := 6, ground := Ground.chain }, { on := 6, ground := Ground.guard }], guard := some (6, false) }) (v := undef) rfl (by kernel_rfl) (by kernel_rfl) (by kernel_rfl) (fun _ _ _ h => h) (Or.inr ⟨by rfl, rfl⟩) (by assumption) ?_
        try simp only [Act.put, List.setIfInBounds_toArray, List.set_cons_zero, List.set_cons_succ]
        refine wpAnyH_take (i := 10) (oi := { dst := some 20, op := Op.move (Operand.tmp 0), type := 25, pos := "ref.go:25", after := #[{ on := 9, ground := Ground.guard }], guard := some (9, true) }) (v := undef) rfl (by kernel_rfl) (by kernel_rfl) (by kernel_rfl) (fun _ _ _ h => h) (Or.inr ⟨by rfl, rfl⟩) (by assumption) ?_
        try simp only [Act.put, List.setIfInBounds_toArray, List.set_cons_zero, List.set_cons_succ]
        refine wpAnyH_take (i := 11) (oi := { dst := some 21, op := Op.move (Operand.tmp 3), type := 3, pos := "ref.go:25", after := #[{ on := 9, ground := Ground.guard }], guard := some (9, true) }) (v := undef) rfl (by kernel_rfl) (by kernel_rfl) (by kernel_rfl) (fun _ _ _ h => h) (Or.inr ⟨by rfl, rfl⟩) (by assumption) ?_
        try simp only [Act.put, List.setIfInBounds_toArray, List.set_cons_zero, List.set_cons_succ]
        refine wpAnyH_take (i := 12) (oi := { dst := some 22, op := Op.indexAddr 25 (Operand.tmp 20) (Operand.tmp 21), type := 0, pos := "ref.go:25", after := #[{ on := 10, ground := Ground.data }, { on := 11, ground := Ground.data }, { on := 9, ground := Ground.guard }], guard := some (9, true) }) (v := undef) rfl (by kernel_rfl) (by kernel_rfl) (by kernel_rfl) (fun _ _ _ h => h) (Or.inr ⟨by rfl, rfl⟩) (by assumption) ?_
        try simp only [Act.put, List.setIfInBounds_toArray, List.set_cons_zero, List.set_cons_succ]
        refine wpAnyH_take (i := 13) (oi := { dst := some 23, op := Op.fieldAddr 46 (Operand.tmp 22) 0, type := 0, pos := "ref.go:25", after := #[{ on := 12, ground := Ground.data }, { on := 9, ground := Ground.guard }], guard := some (9, true) }) (v := undef) rfl (by kernel_rfl) (by kernel_rfl) (by kernel_rfl) (fun _ _ _ h => h) (Or.inr ⟨by rfl, rfl⟩) (by assumption) ?_
        try simp only [Act.put, List.setIfInBounds_toArray, List.set_cons_zero, List.set_cons_succ]
        refine wpAnyH_take (i := 14) (oi := { dst := some 24, op := Op.load 23 (Operand.tmp 23), type := 23, pos := "ref.go:25", after := #[{ on := 13, ground := Ground.data }, { on := 9, ground := Ground.guard }], guard := some (9, true) }) (v := undef) rfl (by kernel_rfl) (by kernel_rfl) (by kernel_rfl) (fun _ _ _ h => h) (Or.inr ⟨by rfl, rfl⟩) (by assumption) ?_
        try simp only [Act.put, List.setIfInBounds_toArray, List.set_cons_zero, List.set_cons_succ]
        refine wpAnyH_take (i := 15) (oi := { dst := some 25, op := Op.move (Operand.tmp 0), type := 25, pos := "ref.go:25", after := #[{ on := 9, ground := Ground.guard }], guard := some (9, true) }) (v := undef) rfl (by kernel_rfl) (by kernel_rfl) (by kernel_rfl) (fun _ _ _ h => h) (Or.inr ⟨by rfl, rfl⟩) (by assumption) ?_
        try simp only [Act.put, List.setIfInBounds_toArray, List.set_cons_zero, List.set_cons_succ]
        refine wpAnyH_take (i := 16) (oi := { dst := some 26, op := Op.move (Operand.tmp 3), type := 3, pos := "ref.go:25", after := #[{ on := 9, ground := Ground.guard }], guard := some (9, true) }) (v := undef) rfl (by kernel_rfl) (by kernel_rfl) (by kernel_rfl) (fun _ _ _ h => h) (Or.inr ⟨by rfl, rfl⟩) (by assumption) ?_
        try simp only [Act.put, List.setIfInBounds_toArray, List.set_cons_zero, List.set_cons_succ]
        refine wpAnyH_take (i := 17) (oi := { dst := some 27, op := Op.binOp BinOp.sub 3 (Operand.tmp 26) (Operand.const (Value.int IntKind.i64 1)) 3, type := 3, pos := "ref.go:25", after := #[{ on := 16, ground := Ground.data }, { on := 9, ground := Ground.guard }], guard := some (9, true) }) (v := undef) rfl (by kernel_rfl) (by kernel_rfl) (by kernel_rfl) (fun _ _ _ h => h) (Or.inr ⟨by rfl, rfl⟩) (by assumption) ?_
        try simp only [Act.put, List.setIfInBounds_toArray, List.set_cons_zero, List.set_cons_succ]
        refine wpAnyH_take (i := 18) (oi := { dst := some 28, op := Op.indexAddr 25 (Operand.tmp 25) (Operand.tmp 27), type := 0, pos := "ref.go:25", after := #[{ on := 15, ground := Ground.data }, { on := 17, ground := Ground.data }, { on := 9, ground := Ground.guard }], guard := some (9, true) }) (v := undef) rfl (by kernel_rfl) (by kernel_rfl) (by kernel_rfl) (fun _ _ _ h => h) (Or.inr ⟨by rfl, rfl⟩) (by assumption) ?_
        try simp only [Act.put, List.setIfInBounds_toArray, List.set_cons_zero, List.set_cons_succ]
        refine wpAnyH_take (i := 19) (oi := { dst := some 29, op := Op.fieldAddr 46 (Operand.tmp 28) 0, type := 0, pos := "ref.go:25", after := #[{ on := 18, ground := Ground.data }, { on := 9, ground := Ground.guard }], guard := some (9, true) }) (v := undef) rfl (by kernel_rfl) (by kernel_rfl) (by kernel_rfl) (fun _ _ _ h => h) (Or.inr ⟨by rfl, rfl⟩) (by assumption) ?_
        try simp only [Act.put, List.setIfInBounds_toArray, List.set_cons_zero, List.set_cons_succ]
        refine wpAnyH_take (i := 20) (oi := { dst := some 30, op := Op.load 23 (Operand.tmp 29), type := 23, pos := "ref.go:25", after := #[{ on := 19, ground := Ground.data }, { on := 9, ground := Ground.guard }], guard := some (9, true) }) (v := undef) rfl (by kernel_rfl) (by kernel_rfl) (by kernel_rfl) (fun _ _ _ h => h) (Or.inr ⟨by rfl, rfl⟩) (by assumption) ?_
        try simp only [Act.put, List.setIfInBounds_toArray, List.set_cons_zero, List.set_cons_succ]
        refine wpAnyH_take (i := 21) (oi := { dst := some 31, op := Op.binOp BinOp.leq 23 (Operand.tmp 24) (Operand.tmp 30) 23, type := 4, pos := "ref.go:25", after := #[{ on := 14, ground := Ground.data }, { on := 20, ground := Ground.data }, { on := 9, ground := Ground.guard }], guard := some (9, true) }) (v := undef) rfl (by kernel_rfl) (by kernel_rfl) (by kernel_rfl) (fun _ _ _ h => h) (Or.inr ⟨by rfl, rfl⟩) (by assumption) ?_
        try simp only [Act.put, List.setIfInBounds_toArray, List.set_cons_zero, List.set_cons_succ]
        refine wpAnyH_take (i := 22) (oi := { dst := some 32, op := Op.pick (Operand.tmp 19) (Operand.tmp 31) (Operand.const (Value.bool false)), type := 4, pos := "ref.go:25", after := #[{ on := 9, ground := Ground.data }, { on := 21, ground := Ground.data }, { on := 6, ground := Ground.guard }], guard := some (6, false) }) (v := undef) rfl (by kernel_rfl) (by kernel_rfl) (by kernel_rfl) (fun _ _ _ h => h) (Or.inr ⟨by rfl, rfl⟩) (by assumption) ?_
        try simp only [Act.put, List.setIfInBounds_toArray, List.set_cons_zero, List.set_cons_succ]
        refine wpAnyH_take (i := 23) (oi := { dst := some 33, op := Op.pick (Operand.tmp 16) (Operand.const (Value.bool true)) (Operand.tmp 32), type := 4, pos := "ref.go:25", after := #[{ on := 6, ground := Ground.data }, { on := 22, ground := Ground.data }], guard := none }) (v := ?_) rfl (by kernel_rfl) (by kernel_rfl) (by kernel_rfl) (fun _ _ _ h => h) (Or.inl ⟨by rfl, ?_⟩) (by assumption) ?_
        rotate_left
        · intro W hSW; (try dsimp only at hSW); go_simp; try with_reducible rfl
        try simp only [Act.put, List.setIfInBounds_toArray, List.set_cons_zero, List.set_cons_succ]
        refine wpAnyH_done (by kernel_rfl) ?_ _
        go_wp2_with fail
        go_ret
        exact ⟨by rw [HK.out.1]; rfl, HK.out.2.trans (D1.out.mono HK.out.2.size)⟩
    · obtain rfl : j = n := by omega
      have hf : Cn.right l = true := by rw [← Cn.okTo_all, H.out.2]; exact hu
      have HK := Lib.hid (And.intro hf hh)
      clear hf hh hu hk hlt
      go_wp2_with fail
      go_ret
      exact ⟨by rw [HK.out.1]; rfl, HK.out.2⟩
end Go.Proofs.Yteegnehfagkjcaa
