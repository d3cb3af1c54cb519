/- Layer 14's theorem: WindowParts. Made by tools/gen/law14p.py. -/
import Derived.Test.YtaplmioohihmbaaLaw14T
import Derived.Test.YtaplmioohihmbaaWnP
namespace Go.Proofs.Ytaplmioohihmbaa
open Go.ChangeShapes Go.WideShapes Go.ChangeAt Go.RowKit

set_option maxRecDepth 100000 in
set_option maxHeartbeats 4000000 in
theorem windowParts_k1 (k s l g t a b : Int) (w : World) (hk : k = 1) (hr0 : Wn.right ⟨k, s, l, g⟩ = true) (hT : Wn.isT t = true) : Calls Try.prog 6 #[.agg #[.int .u8 k, .int .i64 s, .int .i64 l, .int .i64 g], .int .i64 t, .agg #[.int .i64 a, .int .i64 b]] w (TrueP w) := by
  obtain ⟨w0, bx, sx, hw0, hbx, hsx, hbe, hlt, hc⟩ := win_boxes w 23 25 k s l g a b
  obtain ⟨c0, c1, c2, c3, c4, c5⟩ := hc w0 (Below.refl _ _)
  obtain ⟨ls, hls⟩ : ∃ ls, Wn.ofL ⟨k, s, l, g⟩ t = ls := ⟨_, rfl⟩
  have hlen := ofL_len ⟨k, s, l, g⟩ t
  have hmany := Wn.many hr0 hT
  have hgood : ∀ q x, ls[q]? = some x → Wn.Good ⟨k, s, l, g⟩ t q x := fun q x hx => Wn.good hr0 hT (by rw [hls]; exact hx)
  have hhas : k ≠ 3 → Wn.is ⟨k, s, l, g⟩ (a, b) = true → Wn.has (a, b) t = ls.contains (a, b) := fun h3 h => by
    rw [← hls]
    exact Wn.is_has hr0 hT h3 a b h
  have HO : Hid (∀ X, Calls Try.prog 10 #[.agg #[.int .u8 k, .int .i64 s, .int .i64 l, .int .i64 g], .int .i64 t] X (SpP X 25 ls)) := Lib.hid fun X => by
    have := of_any k s l g t X
    rwa [hls] at this
  have hr := fun X => right_any k s l g X
  rw [hr0] at hr
  have hti := (Wn.isT_iff t).1 hT
  obtain ⟨t1, t2⟩ := hti
  rw [hls] at hlen hmany
  simp only at hmany
  have hl0 : k = 2 → ¬ l = 0 ∧ -9223372036854775808 ≤ s.tdiv l ∧ s.tdiv l ≤ 9223372036854775807 := fun h2 => by
    subst h2
    obtain ⟨n, st, hs⟩ := Wn.right_std hr0 (by simp)
    have h1 := hs.st_eq
    have h2 : Wn.step ⟨2, s, l, g⟩ = l := rfl
    rw [if_pos rfl] at hmany
    have := hs.st_lo
    omega
  have H := Lib.hid (And.intro hbe (And.intro hc (And.intro hlen (And.intro hgood hhas))))
  have hlenN : ls.length ≤ 16 := H.out.2.2.1
  have hlen' : ((ls.length : Nat) : Int) ≤ 16 := by omega
  have HLS := Lib.hid hls
  clear hbe hc hls hlen hgood hhas hr0 hT
  subst hk
  rw [if_neg (by decide)] at hmany
  have hl1 : ls.length = 1 := by omega
  have HL1 := Lib.hid hl1
  clear hl0 hl1
  go_enter Try.func6, Try.ntmps6
  go_wp2_with (first
      | (go_at_call 10; (with_reducible refine (HO.out _).mono ?_); rintro e w1 ⟨A, n, rfl, o1, b1⟩; have B1 := Lib.hid b1; have O1 := Lib.hid o1; obtain ⟨d0, d1, d2, d3, d4, d5⟩ := H.out.2.1 w1 b1; clear b1 o1)
      | (go_at_call 13; (with_reducible refine (hr _).mono ?_); rintro e w2 ⟨rfl, b2⟩; have B2 := Lib.hid (below_next B1.out b2); have O2 := Lib.hid (Cells.of_own (own_below O1.out b2)); obtain ⟨f0, f1, f2, f3, f4, f5⟩ := H.out.2.1 w2 B2.out; clear b2))
  have HM := Lib.hid hmany
  clear hmany
  go_loopw [9, 10] (fun f i wy => ∃ q : Nat, q ≤ ls.length ∧ i = .int .i64 (q : Int) ∧ f = .bool ((ls.take q).contains (a, b)) ∧ Below w2.heap.size w2 wy) (fun _ i _ => ls.length - (intOf i).toNat)
  case atStart => exact ⟨0, by omega, rfl, rfl, Below.refl _ _⟩
  case round =>
    obtain ⟨q, hq, rfl, rfl, hby⟩ := hrel
    rename World => wy
    by_cases hlq : q < ls.length
    · have i3 : (0 : Int) ≤ (q : Int) := by omega
      have i4 : (q : Int) < (ls.length : Int) := by omega
      obtain ⟨x, hx⟩ : ∃ x, ls[q]? = some x := ⟨_, List.getElem?_eq_getElem hlq⟩
      have hg := H.out.2.2.2.1 q x hx
      obtain ⟨gr, gf, rfl, -, -, -, -⟩ := sp_cells (O2.out.below hby) hx
      have HS : Hid (∀ X, Below wy.heap.size wy X → ∀ q x, ls[q]? = some x → X.cell? ⟨gr, gf + q * 2, none⟩ = some (.int .i64 x.1) ∧ X.cell? ⟨gr, gf + q * 2 + 1, none⟩ = some (.int .i64 x.2)) := Lib.hid fun X hX q x hx => by
        obtain ⟨b', o', e, -, -, m0, m1⟩ := sp_cells (O2.out.below (below_next hby hX)) hx
        injection e with e
        injection e with e1 e2
        subst e1 e2
        exact ⟨m0, m1⟩
      have HW : Hid (∀ X, Below wy.heap.size wy X → X.cell? ⟨bx, 0, none⟩ = some (.int .u8 1) ∧ X.cell? ⟨bx, 1, none⟩ = some (.int .i64 s) ∧ X.cell? ⟨bx, 2, none⟩ = some (.int .i64 l) ∧ X.cell? ⟨bx, 3, none⟩ = some (.int .i64 g) ∧ X.cell? ⟨sx, 0, none⟩ = some (.int .i64 a) ∧ X.cell? ⟨sx, 1, none⟩ = some (.int .i64 b)) := Lib.hid fun X hX => H.out.2.1 X (B2.out.trans ((below_next hby hX).mono B2.out.size))
      have D : Hid (Below wy.heap.size wy wy.drew) := Lib.hid (Below.refl _ _).drew
      have HHas : Hid (∀ X, Calls Try.prog 18 #[.agg #[.int .i64 x.1, .int .i64 x.2], .int .i64 t] X (ValP X (.bool true))) := Lib.hid fun X => by
        have := has_any x.1 x.2 t X
        rwa [hg.has_] at this
      have HQ := Lib.hid (And.intro hby (And.intro hg hx))
      have gg := span_guard
      have hqq := fun a b c d W => span_same a b c d W
      have hcs := Wn.contains_snoc ls q x (a, b) hx
      obtain ⟨fd, hfd⟩ : ∃ fd, (ls.take q).contains (a, b) = fd := ⟨_, rfl⟩
      rw [hfd] at hcs ⊢
      have HF := Lib.hid hcs
      clear hby hg hx hcs hfd c0 c1 c2 c3 c4 c5 d0 d1 d2 d3 d4 d5 f0 f1 f2 f3 f4 f5
      have q0 : ¬ 0 < q := by have := HL1.out; omega
      have qz : decide (0 < q) = false := decide_eq_false q0
      go_upto_region 13 with fail
      refine wp_region_held_drew (S := (fun X => X.cell? ⟨bx, 2, none⟩ = some (.int .i64 l) ∧ X.cell? ⟨gr, gf + q * 2, none⟩ = some (.int .i64 x.1) ∧ X.cell? ⟨gr, gf + q * 2 + 1, none⟩ = some (.int .i64 x.2))) (by kernel_rfl) (⟨(HW.out _ D.out).2.2.1, HS.out _ D.out q x HQ.out.2.2⟩) (fun hHeld => ?_)
      refine wpAnyH_take (i := 0) (oi := { dst := some 49, op := Op.move (Operand.tmp 7), type := 30, pos := "law.go:69", after := #[], guard := none }) (v := ?_) rfl (by kernel_rfl) (by kernel_rfl) (by kernel_rfl) (fun _ _ _ h => h) (Or.inl ⟨by rfl, ?_⟩) (by assumption) ?_
      rotate_left
      · intro W hSW; (try dsimp only at hSW); go_simp; try with_reducible rfl
      try simp only [Act.put, List.setIfInBounds_toArray, List.set_cons_zero, List.set_cons_succ]
      refine wpAnyH_take (i := 1) (oi := { dst := some 50, op := Op.move (Operand.tmp 10), type := 3, pos := "law.go:69", after := #[], guard := none }) (v := ?_) rfl (by kernel_rfl) (by kernel_rfl) (by kernel_rfl) (fun _ _ _ h => h) (Or.inl ⟨by rfl, ?_⟩) (by assumption) ?_
      rotate_left
      · intro W hSW; (try dsimp only at hSW); go_simp; try with_reducible rfl
      try simp only [Act.put, List.setIfInBounds_toArray, List.set_cons_zero, List.set_cons_succ]
      refine wpAnyH_take (i := 2) (oi := { dst := some 51, op := Op.indexAddr 30 (Operand.tmp 49) (Operand.tmp 50), type := 0, pos := "law.go:69", after := #[{ on := 0, ground := Ground.data }, { on := 1, ground := Ground.data }], guard := none }) (v := ?_) rfl (by kernel_rfl) (by kernel_rfl) (by kernel_rfl) (fun _ _ _ h => h) (Or.inl ⟨by rfl, ?_⟩) (by assumption) ?_
      rotate_left
      · intro W hSW; (try dsimp only at hSW); go_simp; try with_reducible rfl
      try simp only [Act.put, List.setIfInBounds_toArray, List.set_cons_zero, List.set_cons_succ]
      refine wpAnyH_take (i := 3) (oi := { dst := some 52, op := Op.load 25 (Operand.tmp 51), type := 25, pos := "law.go:69", after := #[{ on := 2, ground := Ground.data }], guard := none }) (v := ?_) rfl (by kernel_rfl) (by kernel_rfl) (by kernel_rfl) (fun _ _ _ h => h) (Or.inl ⟨by rfl, ?_⟩) (by assumption) ?_
      rotate_left
      · intro W hSW; (try dsimp only at hSW); go_simp; try with_reducible rfl
      try simp only [Act.put, List.setIfInBounds_toArray, List.set_cons_zero, List.set_cons_succ]
      refine wpAnyH_take (i := 4) (oi := { dst := some 53, op := Op.move (Operand.tmp 1), type := 2, pos := "law.go:69", after := #[], guard := none }) (v := ?_) rfl (by kernel_rfl) (by kernel_rfl) (by kernel_rfl) (fun _ _ _ h => h) (Or.inl ⟨by rfl, ?_⟩) (by assumption) ?_
      rotate_left
      · intro W hSW; (try dsimp only at hSW); go_simp; try with_reducible rfl
      try simp only [Act.put, List.setIfInBounds_toArray, List.set_cons_zero, List.set_cons_succ]
      refine wpAnyH_ready (rs := [5]) (by kernel_rfl) (by simp) ?_
      refine AllReadyH.cons (o := { dst := some 54, op := Op.call { callee := Callee.value (Operand.func 18), args := #[Operand.tmp 52, Operand.tmp 53], argTypes := #[25, 2] }, type := 4, pos := "law.go:69", after := #[{ on := 3, ground := Ground.data }, { on := 4, ground := Ground.data }], guard := none }) rfl (fun K hK => ?_) AllReadyH.nil
      go_simp
      go_at_call 18; (refine (HHas.out _).mono ?_); rintro e X ⟨rfl, bb⟩; replace D : Hid (Below wy.heap.size wy X) := Lib.hid (below_next D.out bb); clear bb
      go_wp2_with fail
      refine hK.out _ _ ?_ (fun hHeld => ?_)
      · exact ⟨(HW.out _ D.out).2.2.1, HS.out _ D.out q x HQ.out.2.2⟩
      clear hK K
      try simp only [Act.put, List.setIfInBounds_toArray, List.set_cons_zero, List.set_cons_succ]
      refine wpAnyH_take (i := 6) (oi := { dst := some 55, op := Op.unOp UnOp.not 4 (Operand.tmp 54), type := 4, pos := "law.go:69", after := #[{ on := 5, ground := Ground.data }], guard := none }) (v := ?_) rfl (by kernel_rfl) (by kernel_rfl) (by kernel_rfl) (fun _ _ _ h => h) (Or.inl ⟨by rfl, ?_⟩) (by assumption) ?_
      rotate_left
      · intro W hSW; (try dsimp only at hSW); go_simp; try with_reducible rfl
      try simp only [Act.put, List.setIfInBounds_toArray, List.set_cons_zero, List.set_cons_succ]
      refine wpAnyH_take (i := 7) (oi := { dst := some 56, op := Op.move (Operand.tmp 55), type := 4, pos := "law.go:69", after := #[{ on := 6, ground := Ground.data }, { on := 5, ground := Ground.chain }], guard := none }) (v := ?_) rfl (by kernel_rfl) (by kernel_rfl) (by kernel_rfl) (fun _ _ _ h => h) (Or.inl ⟨by rfl, ?_⟩) (by assumption) ?_
      rotate_left
      · intro W hSW; (try dsimp only at hSW); go_simp; try with_reducible rfl
      try simp only [Act.put, List.setIfInBounds_toArray, List.set_cons_zero, List.set_cons_succ]
      refine wpAnyH_take (i := 8) (oi := { dst := some 57, op := Op.move (Operand.tmp 10), type := 3, pos := "law.go:69", after := #[{ on := 7, ground := Ground.guard }], guard := some (7, false) }) (v := ?_) rfl (by kernel_rfl) (by kernel_rfl) (by kernel_rfl) (fun _ _ _ h => h) (Or.inl ⟨by rfl, ?_⟩) (by assumption) ?_
      rotate_left
      · intro W hSW; (try dsimp only at hSW); go_simp; try with_reducible rfl
      try simp only [Act.put, List.setIfInBounds_toArray, List.set_cons_zero, List.set_cons_succ]
      refine wpAnyH_take (i := 9) (oi := { dst := some 58, op := Op.binOp BinOp.gtr 3 (Operand.tmp 57) (Operand.const (Value.int IntKind.i64 0)) 3, type := 4, pos := "law.go:69", after := #[{ on := 8, ground := Ground.data }, { on := 7, ground := Ground.guard }], guard := some (7, false) }) (v := ?_) rfl (by kernel_rfl) (by kernel_rfl) (by kernel_rfl) (fun _ _ _ h => h) (Or.inl ⟨by rfl, ?_⟩) (by assumption) ?_
      rotate_left
      · intro W hSW; (try dsimp only at hSW); go_simp; try with_reducible rfl
      try simp only [Act.put, List.setIfInBounds_toArray, List.set_cons_zero, List.set_cons_succ]
      refine wpAnyH_take (i := 10) (oi := { dst := some 59, op := Op.move (Operand.tmp 58), type := 4, pos := "law.go:69", after := #[{ on := 9, ground := Ground.data }, { on := 7, ground := Ground.chain }, { on := 7, ground := Ground.guard }], guard := some (7, false) }) (v := ?_) rfl (by kernel_rfl) (by kernel_rfl) (by kernel_rfl) (fun _ _ _ h => h) (Or.inl ⟨by rfl, ?_⟩) (by assumption) ?_
      rotate_left
      · intro W hSW; (try dsimp only at hSW); go_simp; try with_reducible rfl
      try simp only [Act.put, List.setIfInBounds_toArray, List.set_cons_zero, List.set_cons_succ]
      refine wpAnyH_take (i := 11) (oi := { dst := some 60, op := Op.move (Operand.tmp 7), type := 30, pos := "law.go:69", after := #[{ on := 10, ground := Ground.guard }], guard := some (10, true) }) (v := undef) rfl (by kernel_rfl) (by kernel_rfl) (by kernel_rfl) (fun _ _ _ h => h) (Or.inr ⟨by rfl, rfl⟩) (by assumption) ?_
      try simp only [Act.put, List.setIfInBounds_toArray, List.set_cons_zero, List.set_cons_succ]
      refine wpAnyH_take (i := 12) (oi := { dst := some 61, op := Op.move (Operand.tmp 10), type := 3, pos := "law.go:69", after := #[{ on := 10, ground := Ground.guard }], guard := some (10, true) }) (v := undef) rfl (by kernel_rfl) (by kernel_rfl) (by kernel_rfl) (fun _ _ _ h => h) (Or.inr ⟨by rfl, rfl⟩) (by assumption) ?_
      try simp only [Act.put, List.setIfInBounds_toArray, List.set_cons_zero, List.set_cons_succ]
      refine wpAnyH_take (i := 13) (oi := { dst := some 62, op := Op.indexAddr 30 (Operand.tmp 60) (Operand.tmp 61), type := 0, pos := "law.go:69", after := #[{ on := 11, ground := Ground.data }, { on := 12, ground := Ground.data }, { on := 10, ground := Ground.guard }], guard := some (10, true) }) (v := undef) rfl (by kernel_rfl) (by kernel_rfl) (by kernel_rfl) (fun _ _ _ h => h) (Or.inr ⟨by rfl, rfl⟩) (by assumption) ?_
      try simp only [Act.put, List.setIfInBounds_toArray, List.set_cons_zero, List.set_cons_succ]
      refine wpAnyH_take (i := 14) (oi := { dst := some 63, op := Op.fieldAddr 25 (Operand.tmp 62) 0, type := 0, pos := "law.go:69", after := #[{ on := 13, ground := Ground.data }, { on := 10, ground := Ground.guard }], guard := some (10, true) }) (v := undef) rfl (by kernel_rfl) (by kernel_rfl) (by kernel_rfl) (fun _ _ _ h => h) (Or.inr ⟨by rfl, rfl⟩) (by assumption) ?_
      try simp only [Act.put, List.setIfInBounds_toArray, List.set_cons_zero, List.set_cons_succ]
      refine wpAnyH_take (i := 15) (oi := { dst := some 64, op := Op.load 2 (Operand.tmp 63), type := 2, pos := "law.go:69", after := #[{ on := 14, ground := Ground.data }, { on := 10, ground := Ground.guard }], guard := some (10, true) }) (v := undef) rfl (by kernel_rfl) (by kernel_rfl) (by kernel_rfl) (fun _ _ _ h => h) (Or.inr ⟨by rfl, rfl⟩) (by assumption) ?_
      try simp only [Act.put, List.setIfInBounds_toArray, List.set_cons_zero, List.set_cons_succ]
      refine wpAnyH_take (i := 16) (oi := { dst := some 65, op := Op.move (Operand.tmp 7), type := 30, pos := "law.go:69", after := #[{ on := 10, ground := Ground.guard }], guard := some (10, true) }) (v := undef) rfl (by kernel_rfl) (by kernel_rfl) (by kernel_rfl) (fun _ _ _ h => h) (Or.inr ⟨by rfl, rfl⟩) (by assumption) ?_
      try simp only [Act.put, List.setIfInBounds_toArray, List.set_cons_zero, List.set_cons_succ]
      refine wpAnyH_take (i := 17) (oi := { dst := some 66, op := Op.move (Operand.tmp 10), type := 3, pos := "law.go:69", after := #[{ on := 10, ground := Ground.guard }], guard := some (10, true) }) (v := undef) rfl (by kernel_rfl) (by kernel_rfl) (by kernel_rfl) (fun _ _ _ h => h) (Or.inr ⟨by rfl, rfl⟩) (by assumption) ?_
      try simp only [Act.put, List.setIfInBounds_toArray, List.set_cons_zero, List.set_cons_succ]
      refine wpAnyH_take (i := 18) (oi := { dst := some 67, op := Op.binOp BinOp.sub 3 (Operand.tmp 66) (Operand.const (Value.int IntKind.i64 1)) 3, type := 3, pos := "law.go:69", after := #[{ on := 17, ground := Ground.data }, { on := 10, ground := Ground.guard }], guard := some (10, true) }) (v := undef) rfl (by kernel_rfl) (by kernel_rfl) (by kernel_rfl) (fun _ _ _ h => h) (Or.inr ⟨by rfl, rfl⟩) (by assumption) ?_
      try simp only [Act.put, List.setIfInBounds_toArray, List.set_cons_zero, List.set_cons_succ]
      refine wpAnyH_take (i := 19) (oi := { dst := some 68, op := Op.indexAddr 30 (Operand.tmp 65) (Operand.tmp 67), type := 0, pos := "law.go:69", after := #[{ on := 16, ground := Ground.data }, { on := 18, ground := Ground.data }, { on := 10, ground := Ground.guard }], guard := some (10, true) }) (v := undef) rfl (by kernel_rfl) (by kernel_rfl) (by kernel_rfl) (fun _ _ _ h => h) (Or.inr ⟨by rfl, rfl⟩) (by assumption) ?_
      try simp only [Act.put, List.setIfInBounds_toArray, List.set_cons_zero, List.set_cons_succ]
      refine wpAnyH_take (i := 20) (oi := { dst := some 69, op := Op.fieldAddr 25 (Operand.tmp 68) 0, type := 0, pos := "law.go:69", after := #[{ on := 19, ground := Ground.data }, { on := 10, ground := Ground.guard }], guard := some (10, true) }) (v := undef) rfl (by kernel_rfl) (by kernel_rfl) (by kernel_rfl) (fun _ _ _ h => h) (Or.inr ⟨by rfl, rfl⟩) (by assumption) ?_
      try simp only [Act.put, List.setIfInBounds_toArray, List.set_cons_zero, List.set_cons_succ]
      refine wpAnyH_take (i := 21) (oi := { dst := some 70, op := Op.load 2 (Operand.tmp 69), type := 2, pos := "law.go:69", after := #[{ on := 20, ground := Ground.data }, { on := 10, ground := Ground.guard }], guard := some (10, true) }) (v := undef) rfl (by kernel_rfl) (by kernel_rfl) (by kernel_rfl) (fun _ _ _ h => h) (Or.inr ⟨by rfl, rfl⟩) (by assumption) ?_
      try simp only [Act.put, List.setIfInBounds_toArray, List.set_cons_zero, List.set_cons_succ]
      refine wpAnyH_take (i := 22) (oi := { dst := some 71, op := Op.binOp BinOp.sub 2 (Operand.tmp 64) (Operand.tmp 70) 2, type := 2, pos := "law.go:69", after := #[{ on := 15, ground := Ground.data }, { on := 21, ground := Ground.data }, { on := 10, ground := Ground.guard }], guard := some (10, true) }) (v := undef) rfl (by kernel_rfl) (by kernel_rfl) (by kernel_rfl) (fun _ _ _ h => h) (Or.inr ⟨by rfl, rfl⟩) (by assumption) ?_
      try simp only [Act.put, List.setIfInBounds_toArray, List.set_cons_zero, List.set_cons_succ]
      refine wpAnyH_take (i := 23) (oi := { dst := some 72, op := Op.fieldAddr 23 (Operand.tmp 3) 2, type := 0, pos := "law.go:69", after := #[{ on := 10, ground := Ground.guard }], guard := some (10, true) }) (v := undef) rfl (by kernel_rfl) (by kernel_rfl) (by kernel_rfl) (fun _ _ _ h => h) (Or.inr ⟨by rfl, rfl⟩) (by assumption) ?_
      try simp only [Act.put, List.setIfInBounds_toArray, List.set_cons_zero, List.set_cons_succ]
      refine wpAnyH_take (i := 24) (oi := { dst := some 73, op := Op.load 2 (Operand.tmp 72), type := 2, pos := "law.go:69", after := #[{ on := 23, ground := Ground.data }, { on := 10, ground := Ground.guard }], guard := some (10, true) }) (v := undef) rfl (by kernel_rfl) (by kernel_rfl) (by kernel_rfl) (fun _ _ _ h => h) (Or.inr ⟨by rfl, rfl⟩) (by assumption) ?_
      try simp only [Act.put, List.setIfInBounds_toArray, List.set_cons_zero, List.set_cons_succ]
      refine wpAnyH_take (i := 25) (oi := { dst := some 74, op := Op.binOp BinOp.neq 2 (Operand.tmp 71) (Operand.tmp 73) 2, type := 4, pos := "law.go:69", after := #[{ on := 22, ground := Ground.data }, { on := 24, ground := Ground.data }, { on := 10, ground := Ground.guard }], guard := some (10, true) }) (v := undef) rfl (by kernel_rfl) (by kernel_rfl) (by kernel_rfl) (fun _ _ _ h => h) (Or.inr ⟨by rfl, rfl⟩) (by assumption) ?_
      try simp only [Act.put, List.setIfInBounds_toArray, List.set_cons_zero, List.set_cons_succ]
      refine wpAnyH_take (i := 26) (oi := { dst := some 75, op := Op.move (Operand.tmp 74), type := 4, pos := "law.go:69", after := #[{ on := 25, ground := Ground.data }, { on := 10, ground := Ground.chain }, { on := 10, ground := Ground.guard }], guard := some (10, true) }) (v := undef) rfl (by kernel_rfl) (by kernel_rfl) (by kernel_rfl) (fun _ _ _ h => h) (Or.inr ⟨by rfl, rfl⟩) (by assumption) ?_
      try simp only [Act.put, List.setIfInBounds_toArray, List.set_cons_zero, List.set_cons_succ]
      refine wpAnyH_take (i := 27) (oi := { dst := some 76, op := Op.move (Operand.tmp 7), type := 30, pos := "law.go:69", after := #[{ on := 26, ground := Ground.guard }], guard := some (26, false) }) (v := undef) rfl (by kernel_rfl) (by kernel_rfl) (by kernel_rfl) (fun _ _ _ h => h) (Or.inr ⟨by rfl, rfl⟩) (by assumption) ?_
      try simp only [Act.put, List.setIfInBounds_toArray, List.set_cons_zero, List.set_cons_succ]
      refine wpAnyH_take (i := 28) (oi := { dst := some 77, op := Op.move (Operand.tmp 10), type := 3, pos := "law.go:69", after := #[{ on := 26, ground := Ground.guard }], guard := some (26, false) }) (v := undef) rfl (by kernel_rfl) (by kernel_rfl) (by kernel_rfl) (fun _ _ _ h => h) (Or.inr ⟨by rfl, rfl⟩) (by assumption) ?_
      try simp only [Act.put, List.setIfInBounds_toArray, List.set_cons_zero, List.set_cons_succ]
      refine wpAnyH_take (i := 29) (oi := { dst := some 78, op := Op.indexAddr 30 (Operand.tmp 76) (Operand.tmp 77), type := 0, pos := "law.go:69", after := #[{ on := 27, ground := Ground.data }, { on := 28, ground := Ground.data }, { on := 26, ground := Ground.guard }], guard := some (26, false) }) (v := undef) rfl (by kernel_rfl) (by kernel_rfl) (by kernel_rfl) (fun _ _ _ h => h) (Or.inr ⟨by rfl, rfl⟩) (by assumption) ?_
      try simp only [Act.put, List.setIfInBounds_toArray, List.set_cons_zero, List.set_cons_succ]
      refine wpAnyH_take (i := 30) (oi := { dst := some 79, op := Op.fieldAddr 25 (Operand.tmp 78) 1, type := 0, pos := "law.go:69", after := #[{ on := 29, ground := Ground.data }, { on := 26, ground := Ground.guard }], guard := some (26, false) }) (v := undef) rfl (by kernel_rfl) (by kernel_rfl) (by kernel_rfl) (fun _ _ _ h => h) (Or.inr ⟨by rfl, rfl⟩) (by assumption) ?_
      try simp only [Act.put, List.setIfInBounds_toArray, List.set_cons_zero, List.set_cons_succ]
      refine wpAnyH_take (i := 31) (oi := { dst := some 80, op := Op.load 2 (Operand.tmp 79), type := 2, pos := "law.go:69", after := #[{ on := 30, ground := Ground.data }, { on := 26, ground := Ground.guard }], guard := some (26, false) }) (v := undef) rfl (by kernel_rfl) (by kernel_rfl) (by kernel_rfl) (fun _ _ _ h => h) (Or.inr ⟨by rfl, rfl⟩) (by assumption) ?_
      try simp only [Act.put, List.setIfInBounds_toArray, List.set_cons_zero, List.set_cons_succ]
      refine wpAnyH_take (i := 32) (oi := { dst := some 81, op := Op.move (Operand.tmp 7), type := 30, pos := "law.go:69", after := #[{ on := 26, ground := Ground.guard }], guard := some (26, false) }) (v := undef) rfl (by kernel_rfl) (by kernel_rfl) (by kernel_rfl) (fun _ _ _ h => h) (Or.inr ⟨by rfl, rfl⟩) (by assumption) ?_
      try simp only [Act.put, List.setIfInBounds_toArray, List.set_cons_zero, List.set_cons_succ]
      refine wpAnyH_take (i := 33) (oi := { dst := some 82, op := Op.move (Operand.tmp 10), type := 3, pos := "law.go:69", after := #[{ on := 26, ground := Ground.guard }], guard := some (26, false) }) (v := undef) rfl (by kernel_rfl) (by kernel_rfl) (by kernel_rfl) (fun _ _ _ h => h) (Or.inr ⟨by rfl, rfl⟩) (by assumption) ?_
      try simp only [Act.put, List.setIfInBounds_toArray, List.set_cons_zero, List.set_cons_succ]
      refine wpAnyH_take (i := 34) (oi := { dst := some 83, op := Op.binOp BinOp.sub 3 (Operand.tmp 82) (Operand.const (Value.int IntKind.i64 1)) 3, type := 3, pos := "law.go:69", after := #[{ on := 33, ground := Ground.data }, { on := 26, ground := Ground.guard }], guard := some (26, false) }) (v := undef) rfl (by kernel_rfl) (by kernel_rfl) (by kernel_rfl) (fun _ _ _ h => h) (Or.inr ⟨by rfl, rfl⟩) (by assumption) ?_
      try simp only [Act.put, List.setIfInBounds_toArray, List.set_cons_zero, List.set_cons_succ]
      refine wpAnyH_take (i := 35) (oi := { dst := some 84, op := Op.indexAddr 30 (Operand.tmp 81) (Operand.tmp 83), type := 0, pos := "law.go:69", after := #[{ on := 32, ground := Ground.data }, { on := 34, ground := Ground.data }, { on := 26, ground := Ground.guard }], guard := some (26, false) }) (v := undef) rfl (by kernel_rfl) (by kernel_rfl) (by kernel_rfl) (fun _ _ _ h => h) (Or.inr ⟨by rfl, rfl⟩) (by assumption) ?_
      try simp only [Act.put, List.setIfInBounds_toArray, List.set_cons_zero, List.set_cons_succ]
      refine wpAnyH_take (i := 36) (oi := { dst := some 85, op := Op.fieldAddr 25 (Operand.tmp 84) 1, type := 0, pos := "law.go:69", after := #[{ on := 35, ground := Ground.data }, { on := 26, ground := Ground.guard }], guard := some (26, false) }) (v := undef) rfl (by kernel_rfl) (by kernel_rfl) (by kernel_rfl) (fun _ _ _ h => h) (Or.inr ⟨by rfl, rfl⟩) (by assumption) ?_
      try simp only [Act.put, List.setIfInBounds_toArray, List.set_cons_zero, List.set_cons_succ]
      refine wpAnyH_take (i := 37) (oi := { dst := some 86, op := Op.load 2 (Operand.tmp 85), type := 2, pos := "law.go:69", after := #[{ on := 36, ground := Ground.data }, { on := 26, ground := Ground.guard }], guard := some (26, false) }) (v := undef) rfl (by kernel_rfl) (by kernel_rfl) (by kernel_rfl) (fun _ _ _ h => h) (Or.inr ⟨by rfl, rfl⟩) (by assumption) ?_
      try simp only [Act.put, List.setIfInBounds_toArray, List.set_cons_zero, List.set_cons_succ]
      refine wpAnyH_take (i := 38) (oi := { dst := some 87, op := Op.binOp BinOp.sub 2 (Operand.tmp 80) (Operand.tmp 86) 2, type := 2, pos := "law.go:69", after := #[{ on := 31, ground := Ground.data }, { on := 37, ground := Ground.data }, { on := 26, ground := Ground.guard }], guard := some (26, false) }) (v := undef) rfl (by kernel_rfl) (by kernel_rfl) (by kernel_rfl) (fun _ _ _ h => h) (Or.inr ⟨by rfl, rfl⟩) (by assumption) ?_
      try simp only [Act.put, List.setIfInBounds_toArray, List.set_cons_zero, List.set_cons_succ]
      refine wpAnyH_take (i := 39) (oi := { dst := some 88, op := Op.fieldAddr 23 (Operand.tmp 3) 2, type := 0, pos := "law.go:69", after := #[{ on := 26, ground := Ground.guard }], guard := some (26, false) }) (v := undef) rfl (by kernel_rfl) (by kernel_rfl) (by kernel_rfl) (fun _ _ _ h => h) (Or.inr ⟨by rfl, rfl⟩) (by assumption) ?_
      try simp only [Act.put, List.setIfInBounds_toArray, List.set_cons_zero, List.set_cons_succ]
      refine wpAnyH_take (i := 40) (oi := { dst := some 89, op := Op.load 2 (Operand.tmp 88), type := 2, pos := "law.go:69", after := #[{ on := 39, ground := Ground.data }, { on := 26, ground := Ground.guard }], guard := some (26, false) }) (v := undef) rfl (by kernel_rfl) (by kernel_rfl) (by kernel_rfl) (fun _ _ _ h => h) (Or.inr ⟨by rfl, rfl⟩) (by assumption) ?_
      try simp only [Act.put, List.setIfInBounds_toArray, List.set_cons_zero, List.set_cons_succ]
      refine wpAnyH_take (i := 41) (oi := { dst := some 90, op := Op.binOp BinOp.neq 2 (Operand.tmp 87) (Operand.tmp 89) 2, type := 4, pos := "law.go:69", after := #[{ on := 38, ground := Ground.data }, { on := 40, ground := Ground.data }, { on := 26, ground := Ground.guard }], guard := some (26, false) }) (v := undef) rfl (by kernel_rfl) (by kernel_rfl) (by kernel_rfl) (fun _ _ _ h => h) (Or.inr ⟨by rfl, rfl⟩) (by assumption) ?_
      try simp only [Act.put, List.setIfInBounds_toArray, List.set_cons_zero, List.set_cons_succ]
      refine wpAnyH_take (i := 42) (oi := { dst := some 91, op := Op.pick (Operand.tmp 75) (Operand.const (Value.bool true)) (Operand.tmp 90), type := 4, pos := "law.go:69", after := #[{ on := 26, ground := Ground.data }, { on := 41, ground := Ground.data }, { on := 10, ground := Ground.guard }], guard := some (10, true) }) (v := undef) rfl (by kernel_rfl) (by kernel_rfl) (by kernel_rfl) (fun _ _ _ h => h) (Or.inr ⟨by rfl, rfl⟩) (by assumption) ?_
      try simp only [Act.put, List.setIfInBounds_toArray, List.set_cons_zero, List.set_cons_succ]
      refine wpAnyH_take (i := 43) (oi := { dst := some 92, op := Op.pick (Operand.tmp 59) (Operand.tmp 91) (Operand.const (Value.bool false)), type := 4, pos := "law.go:69", after := #[{ on := 10, ground := Ground.data }, { on := 42, ground := Ground.data }, { on := 7, ground := Ground.guard }], guard := some (7, false) }) (v := ?_) rfl (by kernel_rfl) (by kernel_rfl) (by kernel_rfl) (fun _ _ _ h => h) (Or.inl ⟨by rfl, ?_⟩) (by assumption) ?_
      rotate_left
      · intro W hSW; (try dsimp only at hSW); go_simp; try with_reducible rfl
      try simp only [Act.put, List.setIfInBounds_toArray, List.set_cons_zero, List.set_cons_succ]
      refine wpAnyH_take (i := 44) (oi := { dst := some 93, op := Op.pick (Operand.tmp 56) (Operand.const (Value.bool true)) (Operand.tmp 92), type := 4, pos := "law.go:69", after := #[{ on := 7, ground := Ground.data }, { on := 43, ground := Ground.data }], guard := none }) (v := ?_) rfl (by kernel_rfl) (by kernel_rfl) (by kernel_rfl) (fun _ _ _ h => h) (Or.inl ⟨by rfl, ?_⟩) (by assumption) ?_
      rotate_left
      · intro W hSW; (try dsimp only at hSW); go_simp; try with_reducible rfl
      try simp only [Act.put, List.setIfInBounds_toArray, List.set_cons_zero, List.set_cons_succ]
      refine wpAnyH_done (by kernel_rfl) ?_ _
      go_wp2_with fail
      obtain ⟨z0, z1⟩ := HS.out _ D.out q x HQ.out.2.2
      obtain ⟨v0, v1, v2, v3, v4, v5⟩ := HW.out _ D.out
      have hx1 := HQ.out.2.1.lo
      have hx2 := HQ.out.2.1.hi
      have hdd : IntKind.i64.wrap (x.2 - x.1) = s := by rw [IntKind.wrap_i64]; have : x.2 - x.1 = s := HQ.out.2.1.long (by simp); omega
      go_wp2_with fail
      go_quiet (fail)
      go_wp2_with fail
      cases fd
      · obtain ⟨eb, heb⟩ : ∃ eb, (x.1 == a && x.2 == b) = eb := ⟨_, rfl⟩
        have qe := fun W => span_same x.1 x.2 a b W
        rw [heb] at qe
        clear hqq
        go_quiet (fail)
        go_wp2_with fail
        refine ⟨⟨q + 1, by omega, by go_num, by rw [HF.out, heb, Bool.false_or], ?_⟩, by simp [intOf]; omega⟩
        have hB := below_next HQ.out.1 D.out
        exact ⟨hB.os, hB.tape, hB.output, hB.size, hB.block⟩
      · go_quiet (fail)
        go_wp2_with fail
        refine ⟨⟨q + 1, by omega, by go_num, by rw [HF.out, Bool.true_or], ?_⟩, by simp [intOf]; omega⟩
        have hB := below_next HQ.out.1 D.out
        exact ⟨hB.os, hB.tape, hB.output, hB.size, hB.block⟩
    · obtain rfl : q = ls.length := by omega
      rw [List.take_length]
      have HQ := Lib.hid hby
      obtain ⟨v0, v1, v2, v3, v4, v5⟩ := H.out.2.1 wy (B2.out.trans (hby.mono B2.out.size))
      clear hby c0 c1 c2 c3 c4 c5 d0 d1 d2 d3 d4 d5 f0 f1 f2 f3 f4 f5
      have hI := fun X => is_any 1 s l g a b X
      have hH := fun X => has_any a b t X
      have hb := H.out.2.2.2.2 (by simp)
      cases hi : Wn.is ⟨1, s, l, g⟩ (a, b)
      · rw [hi] at hI
        clear hb hi
        go_wp2_with (first
          | (go_at_call 12; (with_reducible refine (hI _).mono ?_); rintro e w7 ⟨rfl, b7⟩; have B7 := Lib.hid (below_next HQ.out b7); clear b7)
          | (go_at_call 16; (with_reducible refine (works_any _).mono ?_); rintro e w9 ⟨rfl, b9⟩))
        go_ret
        exact ⟨rfl, H.out.1.trans ((B2.out.trans ((below_next B7.out b9).mono B2.out.size)).mono H.out.1.size)⟩
      · rw [hi] at hI
        rw [hb hi] at hH
        clear hb hi
        generalize ls.contains (a, b) = fd at hH ⊢
        go_wp2_with (first
          | (go_at_call 12; (with_reducible refine (hI _).mono ?_); rintro e w7 ⟨rfl, b7⟩; have B7 := Lib.hid (below_next HQ.out b7); clear b7; obtain ⟨v0, v1, v2, v3, v4, v5⟩ := H.out.2.1 w7 (B2.out.trans (B7.out.mono B2.out.size)))
          | (go_at_call 18; (with_reducible refine (hH _).mono ?_); rintro e w8 ⟨rfl, b8⟩; have B8 := Lib.hid (below_next B7.out b8); clear b8)
          | (go_at_call 16; (with_reducible refine (works_any _).mono ?_); rintro e w9 ⟨rfl, b9⟩))
        go_ret
        exact ⟨rfl, H.out.1.trans ((B2.out.trans ((below_next B8.out b9).mono B2.out.size)).mono H.out.1.size)⟩
end Go.Proofs.Ytaplmioohihmbaa
