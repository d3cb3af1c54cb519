/- Layer 10: BoundTells. Made by tools/gen/bon.py. -/
import Derived.Test.YtponelbfddfliaaBoM
import Derived.Test.YtponelbfddfliaaBoS
import Derived.Test.YtponelbfddfliaaLaw10S
import Derived.Deep.DeepCutAuto
namespace Go.Proofs.Ytponelbfddfliaa
open Go.ChangeShapes Go.WideShapes Go.ChangeAt Go.RowKit

theorem Held.sub8 {w W : World} {l l' : List (Nat × TypeId × Array Value)} (h : Held w W l) (hs : ∀ x ∈ l', x ∈ l) : Held w W l' := ⟨h.1, fun x hx => h.2 x (hs x hx)⟩
theorem Held.put8 {w W : World} {l : List (Nat × TypeId × Array Value)} {g T : Nat} {cs : Array Value} (h : Held w W ((g, T, cs) :: l)) (hg : w.heap.size ≤ g) (hl : ∀ x ∈ l, x.1 ≠ g) (i : Nat) (u : Value) : Held w (W.setCell ⟨g, i, none⟩ u) ((g, T, cs.setIfInBounds i u) :: l) := by
  refine ⟨h.1.setCell (p := ⟨g, i, none⟩) hg u, fun x hx => ?_⟩
  rcases List.mem_cons.1 hx with rfl | hx
  · exact (h.2 _ (List.mem_cons_self ..)).set_ i u
  · exact (h.2 x (List.mem_cons_of_mem _ hx)).far (by have := hl x hx; omega) u
theorem Held.three8 {w W : World} {l : List (Nat × TypeId × Array Value)} {g T : Nat} {x y z : Value} (h : Held w W ((g, T, #[x, y, z]) :: l)) (hg : w.heap.size ≤ g) (hl : ∀ x ∈ l, x.1 ≠ g) (x' y' z' : Value) : Held w (((W.setCell ⟨g, 0, none⟩ x').setCell ⟨g, 1, none⟩ y').setCell ⟨g, 2, none⟩ z') ((g, T, #[x', y', z']) :: l) :=
  ((h.put8 hg hl 0 x').put8 hg hl 1 y').put8 hg hl 2 z'
theorem Held.five8 {w W : World} {l : List (Nat × TypeId × Array Value)} {g T : Nat} {x y z u v : Value} (h : Held w W ((g, T, #[x, y, z, u, v]) :: l)) (hg : w.heap.size ≤ g) (hl : ∀ x ∈ l, x.1 ≠ g) (x' y' z' u' v' : Value) : Held w (((((W.setCell ⟨g, 0, none⟩ x').setCell ⟨g, 1, none⟩ y').setCell ⟨g, 2, none⟩ z').setCell ⟨g, 3, none⟩ u').setCell ⟨g, 4, none⟩ v') ((g, T, #[x', y', z', u', v']) :: l) :=
  ((((h.put8 hg hl 0 x').put8 hg hl 1 y').put8 hg hl 2 z').put8 hg hl 3 u').put8 hg hl 4 v'
theorem Held.swap8 {w W : World} {a b : Nat × TypeId × Array Value} (h : Held w W [a, b]) : Held w W [b, a] := h.sub8 (by intro x hx; simp only [List.mem_cons, List.not_mem_nil, or_false] at hx ⊢; exact hx.symm)
theorem ne8 {g : Nat} {b : Nat × TypeId × Array Value} (hab : g ≠ b.1) : ∀ x ∈ [b], x.1 ≠ g := by
  intro x hx
  obtain rfl := List.mem_singleton.1 hx
  exact fun e => hab e.symm
set_option maxRecDepth 100000 in
set_option maxHeartbeats 40000000 in
theorem boundTells_any (fk : Nat) (fK fT : ByteArray) (fl fm : Int) (k : ByteArray) (s e : Int) (row0 : ByteArray) (w : World) (hf : (Fl.mk fk fK fT fl fm).ok) (hs : i64ok s) (he : i64ok e) : Calls Try.prog 16 #[.agg #[.int .u8 (fk : Int), .string fK, .string fT, .int .i64 fl, .int .i64 fm], .agg #[.string k, .int .i64 s, .int .i64 e], .string row0] w (TrueP w) := by
  have S0 := ((Held.start w).new #[.int .u8 (fk : Int), .string fK, .string fT, .int .i64 fl, .int .i64 fm] 23).new #[.string k, .int .i64 s, .int .i64 e] 33
  obtain ⟨w0, hw0⟩ : ∃ w0, ((w.alloc (.cells #[.int .u8 (fk : Int), .string fK, .string fT, .int .i64 fl, .int .i64 fm] 23)).alloc (.cells #[.string k, .int .i64 s, .int .i64 e] 33)) = w0 := ⟨_, rfl⟩
  rw [hw0, show (w.alloc (.cells #[.int .u8 (fk : Int), .string fK, .string fT, .int .i64 fl, .int .i64 fm] 23)).heap.size = w.heap.size + 1 by simp] at S0
  have HC : Hid (∀ W, Below w0.heap.size w0 W → (fun W => (W.cell? ⟨w.heap.size, 0, none⟩ = some (.int .u8 (fk : Int)) ∧ W.cell? ⟨w.heap.size, 1, none⟩ = some (.string fK) ∧ W.cell? ⟨w.heap.size, 2, none⟩ = some (.string fT) ∧ W.cell? ⟨w.heap.size, 3, none⟩ = some (.int .i64 fl) ∧ W.cell? ⟨w.heap.size, 4, none⟩ = some (.int .i64 fm)) ∧ W.cell? ⟨w.heap.size + 1, 0, none⟩ = some (.string k) ∧ W.cell? ⟨w.heap.size + 1, 1, none⟩ = some (.int .i64 s) ∧ W.cell? ⟨w.heap.size + 1, 2, none⟩ = some (.int .i64 e)) W) := Lib.hid fun W hW => by
    have h := (S0.step hW).2
    have k1 := h _ (List.mem_cons_self ..)
    have k0 := h _ (List.mem_cons_of_mem _ (List.mem_cons_self ..))
    exact ⟨⟨k0.cell 0, k0.cell 1, k0.cell 2, k0.cell 3, k0.cell 4⟩, k1.cell 0, k1.cell 1, k1.cell 2⟩
  have HBE := Lib.hid S0.1
  have HFK := Lib.hid (And.intro hf (And.intro hs he))
  have HFEW := Lib.hid (fun W => few_any (fk : Int) fK fT fl fm k s e W)
  obtain ⟨fw, hfw⟩ : ∃ b, (decide (fK.size ≤ 100) && (decide (fT.size ≤ 100) && decide (k.size ≤ 100))) = b := ⟨_, rfl⟩
  rw [hfw] at HFEW
  have HFW := Lib.hid hfw
  obtain ⟨⟨f0, f1, f2, f3, f4⟩, d0, d1, d2⟩ := HC.out w0 (Below.refl _ _)
  clear S0 hf hs he hfw
  cases fw
  · go_enter Try.func16, Try.ntmps16
    go_wp2_with fail
    refine (HFEW.out _).mono ?_
    rintro x w1 ⟨rfl, b1⟩
    go_wp2_with fail
    refine (works_any _).mono ?_
    rintro x w2 ⟨rfl, b2⟩
    go_wp2_with fail
    go_ret
    exact ⟨rfl, HBE.out.trans ((below_next b1 b2).mono HBE.out.size)⟩
  by_cases h2 : 200 < row0.size
  · have i2 : (200 : Int) < row0.size := by omega
    go_enter Try.func16, Try.ntmps16
    go_wp2_with fail
    refine (HFEW.out _).mono ?_
    rintro x w1 ⟨rfl, b1⟩
    go_wp2_with fail
    refine (works_any _).mono ?_
    rintro x w2 ⟨rfl, b2⟩
    go_wp2_with fail
    go_ret
    exact ⟨rfl, HBE.out.trans ((below_next b1 b2).mono HBE.out.size)⟩
  have i2 : ¬ (200 : Int) < row0.size := by omega
  have HR2 := Lib.hid h2
  clear h2
  have hsz : fK.size ≤ 100 ∧ fT.size ≤ 100 ∧ k.size ≤ 100 := by
    have := HFW.out
    simp only [Bool.and_eq_true, decide_eq_true_eq] at this
    exact this
  have HSZ := Lib.hid hsz
  clear hsz
  go_enter Try.func16, Try.ntmps16
  go_wp2_with fail
  clear hw0 f0 f1 f2 f3 f4 d0 d1 d2
  refine (HFEW.out _).mono ?_
  rintro x w1 ⟨rfl, b1⟩
  have HB1 := Lib.hid b1
  have HC1 : Hid (∀ W, Below w1.heap.size w1 W → (fun W => (W.cell? ⟨w.heap.size, 0, none⟩ = some (.int .u8 (fk : Int)) ∧ W.cell? ⟨w.heap.size, 1, none⟩ = some (.string fK) ∧ W.cell? ⟨w.heap.size, 2, none⟩ = some (.string fT) ∧ W.cell? ⟨w.heap.size, 3, none⟩ = some (.int .i64 fl) ∧ W.cell? ⟨w.heap.size, 4, none⟩ = some (.int .i64 fm)) ∧ W.cell? ⟨w.heap.size + 1, 0, none⟩ = some (.string k) ∧ W.cell? ⟨w.heap.size + 1, 1, none⟩ = some (.int .i64 s) ∧ W.cell? ⟨w.heap.size + 1, 2, none⟩ = some (.int .i64 e)) W) := Lib.hid fun W hW => HC.out W (below_next b1 hW)
  clear b1
  go_wp2_with fail
  clear i2
  have D0 : Below w1.heap.size w1 w1.drew := (Below.refl _ _).drew
  have DV : Below w1.heap.size w1 w1 := Below.refl _ _
  have H := Lib.hid (Held.start w1)
  go_cut [7, 8] (fun p7 p8 wx => ∃ g1 g2, p7 = .pointer (some ⟨g1, 0, none⟩) ∧ p8 = .pointer (some ⟨g2, 0, none⟩) ∧ Held w1 wx [(g1, 37, #[.int .u8 (fk : Int), .string fK, .string fT, .int .i64 fl, .int .i64 fm]), (g2, 34, #[.string k, .int .i64 s, .int .i64 e])])
  case first =>
    refine wp_region_held_drew (S := (fun W => (W.cell? ⟨w.heap.size, 0, none⟩ = some (.int .u8 (fk : Int)) ∧ W.cell? ⟨w.heap.size, 1, none⟩ = some (.string fK) ∧ W.cell? ⟨w.heap.size, 2, none⟩ = some (.string fT) ∧ W.cell? ⟨w.heap.size, 3, none⟩ = some (.int .i64 fl) ∧ W.cell? ⟨w.heap.size, 4, none⟩ = some (.int .i64 fm)) ∧ W.cell? ⟨w.heap.size + 1, 0, none⟩ = some (.string k) ∧ W.cell? ⟨w.heap.size + 1, 1, none⟩ = some (.int .i64 s) ∧ W.cell? ⟨w.heap.size + 1, 2, none⟩ = some (.int .i64 e))) (by kernel_rfl) (HC1.out _ D0) (fun hHeld => ?_)
    refine wpAnyH_take (i := 0) (oi := { dst := some 27, op := Op.load 23 (Operand.tmp 3), type := 23, pos := "law.go:31", after := #[], guard := none }) (v := ?_) rfl (by kernel_rfl) (by kernel_rfl) (by kernel_rfl) (fun _ _ _ h => h) (Or.inl ⟨by rfl, ?_⟩) (by assumption) ?_
    rotate_left
    · intro W hSW; (try dsimp only at hSW); go_simp; try with_reducible rfl
    try simp only [Act.put, List.setIfInBounds_toArray, List.set_cons_zero, List.set_cons_succ]
    refine wpAnyH_take (i := 2) (oi := { dst := some 29, op := Op.load 33 (Operand.tmp 4), type := 33, pos := "law.go:31", after := #[], guard := none }) (v := ?_) rfl (by kernel_rfl) (by kernel_rfl) (by kernel_rfl) (fun _ _ _ h => h) (Or.inl ⟨by rfl, ?_⟩) (by assumption) ?_
    rotate_left
    · intro W hSW; (try dsimp only at hSW); go_simp; try with_reducible rfl
    try simp only [Act.put, List.setIfInBounds_toArray, List.set_cons_zero, List.set_cons_succ]
    refine wpAnyH_ready (rs := [1, 4, 5]) (by kernel_rfl) (by simp) ?_
    refine AllReadyH.cons (o := { dst := some 28, op := Op.call { callee := Callee.value (Operand.func 13), args := #[Operand.tmp 27], argTypes := #[23] }, type := 37, pos := "law.go:31", after := #[{ on := 0, ground := Ground.data }], guard := none }) rfl (fun K hK => ?_) (AllReadyH.cons (o := { dst := some 7, op := Op.alloc 37, type := 0, pos := "law.go:31", after := #[], guard := none }) rfl (fun K hK => ?_) (AllReadyH.cons (o := { dst := some 8, op := Op.alloc 34, type := 0, pos := "law.go:31", after := #[], guard := none }) rfl (fun K hK => ?_) AllReadyH.nil))
    · go_simp
      go_at_call 13
      refine (lref_any (fk : Int) fK fT fl fm _).mono ?_
      rintro x v1 ⟨rfl, b1⟩
      have H := Lib.hid (H.out.step (below_next ((Below.refl w1.heap.size w1).drew) (show Below w1.drew.heap.size w1.drew v1 from b1)))
      have HS1 := Lib.hid (show w1.heap.size ≤ v1.heap.size from b1.size)
      have DV := H.out.1
      clear b1
      go_wp2_with fail
      refine hK.out _ _ ?_ (fun hHeld => ?_)
      · refine HC1.out _ ?_; (repeat' first | (with_reducible exact DV) | (with_reducible exact Below.refl _ _) | (with_reducible refine Below.drew ?_) | (with_reducible refine Below.setCell ?_ ?_ _) | (with_reducible refine Below.alloc ?_ ?_ _) | exact DV.size | exact HZ.out.1 | exact HZ.out.2.1 | exact Nat.le_refl _ | (simp; done) | (have := DV.size; simp; omega) | (simp; omega))
      clear hK K
      try simp only [Act.put, List.setIfInBounds_toArray, List.set_cons_zero, List.set_cons_succ]
      refine wpAnyH_ready (rs := [3, 4, 5]) (by kernel_rfl) (by simp) ?_
      refine AllReadyH.cons (o := { dst := some 30, op := Op.call { callee := Callee.value (Operand.func 11), args := #[Operand.tmp 29], argTypes := #[33] }, type := 34, pos := "law.go:31", after := #[{ on := 2, ground := Ground.data }, { on := 1, ground := Ground.chain }], guard := none }) rfl (fun K hK => ?_) (AllReadyH.cons (o := { dst := some 7, op := Op.alloc 37, type := 0, pos := "law.go:31", after := #[], guard := none }) rfl (fun K hK => ?_) (AllReadyH.cons (o := { dst := some 8, op := Op.alloc 34, type := 0, pos := "law.go:31", after := #[], guard := none }) rfl (fun K hK => ?_) AllReadyH.nil))
      · go_simp
        go_at_call 11
        refine (lpane_any k s e _).mono ?_
        rintro x v2 ⟨rfl, b2⟩
        have H := Lib.hid (H.out.step b2)
        have HS2 := Lib.hid (show v1.heap.size ≤ v2.heap.size from b2.size)
        have DV := H.out.1
        have HV := H
        clear b2
        go_wp2_with fail
        refine hK.out _ _ ?_ (fun hHeld => ?_)
        · refine HC1.out _ ?_; (repeat' first | (with_reducible exact DV) | (with_reducible exact Below.refl _ _) | (with_reducible refine Below.drew ?_) | (with_reducible refine Below.setCell ?_ ?_ _) | (with_reducible refine Below.alloc ?_ ?_ _) | exact DV.size | exact HZ.out.1 | exact HZ.out.2.1 | exact Nat.le_refl _ | (simp; done) | (have := DV.size; simp; omega) | (simp; omega))
        clear hK K
        try simp only [Act.put, List.setIfInBounds_toArray, List.set_cons_zero, List.set_cons_succ]
        refine wpAnyH_ready (rs := [4, 5]) (by kernel_rfl) (by simp) ?_
        refine AllReadyH.cons (o := { dst := some 7, op := Op.alloc 37, type := 0, pos := "law.go:31", after := #[], guard := none }) rfl (fun K hK => ?_) (AllReadyH.cons (o := { dst := some 8, op := Op.alloc 34, type := 0, pos := "law.go:31", after := #[], guard := none }) rfl (fun K hK => ?_) AllReadyH.nil)
        · go_simp
          go_wp2_with fail
          refine hK.out _ _ ?_ (fun hHeld => ?_)
          · refine HC1.out _ ?_; (repeat' first | (with_reducible exact DV) | (with_reducible exact Below.refl _ _) | (with_reducible refine Below.drew ?_) | (with_reducible refine Below.setCell ?_ ?_ _) | (with_reducible refine Below.alloc ?_ ?_ _) | exact DV.size | exact HZ.out.1 | exact HZ.out.2.1 | exact Nat.le_refl _ | (simp; done) | (have := DV.size; simp; omega) | (simp; omega))
          clear hK K
          try simp only [Act.put, List.setIfInBounds_toArray, List.set_cons_zero, List.set_cons_succ]
          have H := Lib.hid (H.out.new #[.int .u8 0, .string ⟨#[]⟩, .string ⟨#[]⟩, .int .i64 0, .int .i64 0] 37)
          refine wpAnyH_ready (rs := [5]) (by kernel_rfl) (by simp) ?_
          refine AllReadyH.cons (o := { dst := some 8, op := Op.alloc 34, type := 0, pos := "law.go:31", after := #[], guard := none }) rfl (fun K hK => ?_) AllReadyH.nil
          go_simp
          go_wp2_with fail
          refine hK.out _ _ ?_ (fun hHeld => ?_)
          · refine HC1.out _ ?_; (repeat' first | (with_reducible exact DV) | (with_reducible exact Below.refl _ _) | (with_reducible refine Below.drew ?_) | (with_reducible refine Below.setCell ?_ ?_ _) | (with_reducible refine Below.alloc ?_ ?_ _) | exact DV.size | exact HZ.out.1 | exact HZ.out.2.1 | exact Nat.le_refl _ | (simp; done) | (have := DV.size; simp; omega) | (simp; omega))
          clear hK K
          try simp only [Act.put, List.setIfInBounds_toArray, List.set_cons_zero, List.set_cons_succ]
          have H := Lib.hid (H.out.new #[.string ⟨#[]⟩, .int .i64 0, .int .i64 0] 34)
          rw [show (v2.alloc (.cells #[.int .u8 0, .string ⟨#[]⟩, .string ⟨#[]⟩, .int .i64 0, .int .i64 0] 37)).heap.size = v2.heap.size + 1 by simp] at H
          refine wpAnyH_ready (rs := [6]) (by kernel_rfl) (by simp) ?_
          refine AllReadyH.cons (o := { dst := none, op := Op.store 37 (Operand.tmp 7) (Operand.tmp 28), type := 0, pos := "law.go:31", after := #[{ on := 4, ground := Ground.data }, { on := 1, ground := Ground.data }, { on := 3, ground := Ground.chain }, { on := 0, ground := Ground.phase }, { on := 1, ground := Ground.phase }, { on := 2, ground := Ground.textOnly Departure.lateStores }, { on := 3, ground := Ground.textOnly Departure.lateStoresUnsure }, { on := 4, ground := Ground.phase }, { on := 5, ground := Ground.phase }], guard := none }) rfl (fun K hK => ?_) AllReadyH.nil
          have HZ : Hid (w1.heap.size ≤ (v2.heap.size) ∧ w1.heap.size ≤ (v2.heap.size + 1) ∧ (v2.heap.size) ≠ (v2.heap.size + 1) ∧ (v2.heap.size + 1) ≠ (v2.heap.size)) := Lib.hid (by have s1 := HS1.out; have s2 := HS2.out; (try simp at s1); (try simp at s2); (refine ⟨?_, ?_, ?_, ?_⟩) <;> (first | omega | (simp; done) | (simp; omega)))
          have kb := H.out.2 _ (List.mem_cons_self ..)
          have b0 := kb.cell 0
          have b1 := kb.cell 1
          have b2 := kb.cell 2
          have bf := fun o => kb.frozen o
          have ka := H.out.2 _ (List.mem_cons_of_mem _ (List.mem_cons_self ..))
          have a0 := ka.cell 0
          have a1 := ka.cell 1
          have a2 := ka.cell 2
          have a3 := ka.cell 3
          have a4 := ka.cell 4
          have af := fun o => ka.frozen o
          go_simp
          go_wp2_with fail
          refine hK.out _ _ ?_ (fun hHeld => ?_)
          · refine HC1.out _ ?_; (repeat' first | (with_reducible exact DV) | (with_reducible exact Below.refl _ _) | (with_reducible refine Below.drew ?_) | (with_reducible refine Below.setCell ?_ ?_ _) | (with_reducible refine Below.alloc ?_ ?_ _) | exact DV.size | exact HZ.out.1 | exact HZ.out.2.1 | exact Nat.le_refl _ | (simp; done) | (have := DV.size; simp; omega) | (simp; omega))
          clear hK K
          try simp only [Act.put, List.setIfInBounds_toArray, List.set_cons_zero, List.set_cons_succ]
          clear ka kb af bf a0 a1 a2 a3 a4 b0 b1 b2
          have H := Lib.hid ((HV.out.new #[.int .u8 (fk : Int), .string fK, .string fT, .int .i64 fl, .int .i64 fm] 37).new #[.string ⟨#[]⟩, .int .i64 0, .int .i64 0] 34)
          rw [show (v2.alloc (.cells #[.int .u8 (fk : Int), .string fK, .string fT, .int .i64 fl, .int .i64 fm] 37)).heap.size = v2.heap.size + 1 by simp] at H
          refine wpAnyH_ready (rs := [7]) (by kernel_rfl) (by simp) ?_
          refine AllReadyH.cons (o := { dst := none, op := Op.store 34 (Operand.tmp 8) (Operand.tmp 30), type := 0, pos := "law.go:31", after := #[{ on := 5, ground := Ground.data }, { on := 3, ground := Ground.data }, { on := 6, ground := Ground.chain }, { on := 0, ground := Ground.phase }, { on := 1, ground := Ground.phase }, { on := 2, ground := Ground.phase }, { on := 3, ground := Ground.phase }, { on := 4, ground := Ground.phase }, { on := 5, ground := Ground.phase }, { on := 6, ground := Ground.phase }], guard := none }) rfl (fun K hK => ?_) AllReadyH.nil
          have kb := H.out.2 _ (List.mem_cons_self ..)
          have b0 := kb.cell 0
          have b1 := kb.cell 1
          have b2 := kb.cell 2
          have bf := fun o => kb.frozen o
          have ka := H.out.2 _ (List.mem_cons_of_mem _ (List.mem_cons_self ..))
          have a0 := ka.cell 0
          have a1 := ka.cell 1
          have a2 := ka.cell 2
          have a3 := ka.cell 3
          have a4 := ka.cell 4
          have af := fun o => ka.frozen o
          go_simp
          go_wp2_with fail
          refine hK.out _ _ ?_ (fun hHeld => ?_)
          · refine HC1.out _ ?_; (repeat' first | (with_reducible exact DV) | (with_reducible exact Below.refl _ _) | (with_reducible refine Below.drew ?_) | (with_reducible refine Below.setCell ?_ ?_ _) | (with_reducible refine Below.alloc ?_ ?_ _) | exact DV.size | exact HZ.out.1 | exact HZ.out.2.1 | exact Nat.le_refl _ | (simp; done) | (have := DV.size; simp; omega) | (simp; omega))
          clear hK K
          try simp only [Act.put, List.setIfInBounds_toArray, List.set_cons_zero, List.set_cons_succ]
          clear ka kb af bf a0 a1 a2 a3 a4 b0 b1 b2
          have H := Lib.hid ((HV.out.new #[.int .u8 (fk : Int), .string fK, .string fT, .int .i64 fl, .int .i64 fm] 37).new #[.string k, .int .i64 s, .int .i64 e] 34)
          rw [show (v2.alloc (.cells #[.int .u8 (fk : Int), .string fK, .string fT, .int .i64 fl, .int .i64 fm] 37)).heap.size = v2.heap.size + 1 by simp] at H
          refine wpAnyH_done (by kernel_rfl) ?_ _
          go_wp2_with fail
          go_meet
          first
            | exact ⟨_, _, rfl, rfl, H.out⟩
            | exact ⟨_, _, rfl, rfl, H.out.swap8⟩
        · go_simp
          go_wp2_with fail
          refine hK.out _ _ ?_ (fun hHeld => ?_)
          · refine HC1.out _ ?_; (repeat' first | (with_reducible exact DV) | (with_reducible exact Below.refl _ _) | (with_reducible refine Below.drew ?_) | (with_reducible refine Below.setCell ?_ ?_ _) | (with_reducible refine Below.alloc ?_ ?_ _) | exact DV.size | exact HZ.out.1 | exact HZ.out.2.1 | exact Nat.le_refl _ | (simp; done) | (have := DV.size; simp; omega) | (simp; omega))
          clear hK K
          try simp only [Act.put, List.setIfInBounds_toArray, List.set_cons_zero, List.set_cons_succ]
          have H := Lib.hid (H.out.new #[.string ⟨#[]⟩, .int .i64 0, .int .i64 0] 34)
          refine wpAnyH_ready (rs := [4]) (by kernel_rfl) (by simp) ?_
          refine AllReadyH.cons (o := { dst := some 7, op := Op.alloc 37, type := 0, pos := "law.go:31", after := #[], guard := none }) rfl (fun K hK => ?_) AllReadyH.nil
          go_simp
          go_wp2_with fail
          refine hK.out _ _ ?_ (fun hHeld => ?_)
          · refine HC1.out _ ?_; (repeat' first | (with_reducible exact DV) | (with_reducible exact Below.refl _ _) | (with_reducible refine Below.drew ?_) | (with_reducible refine Below.setCell ?_ ?_ _) | (with_reducible refine Below.alloc ?_ ?_ _) | exact DV.size | exact HZ.out.1 | exact HZ.out.2.1 | exact Nat.le_refl _ | (simp; done) | (have := DV.size; simp; omega) | (simp; omega))
          clear hK K
          try simp only [Act.put, List.setIfInBounds_toArray, List.set_cons_zero, List.set_cons_succ]
          have H := Lib.hid (H.out.new #[.int .u8 0, .string ⟨#[]⟩, .string ⟨#[]⟩, .int .i64 0, .int .i64 0] 37)
          rw [show (v2.alloc (.cells #[.string ⟨#[]⟩, .int .i64 0, .int .i64 0] 34)).heap.size = v2.heap.size + 1 by simp] at H
          refine wpAnyH_ready (rs := [6]) (by kernel_rfl) (by simp) ?_
          refine AllReadyH.cons (o := { dst := none, op := Op.store 37 (Operand.tmp 7) (Operand.tmp 28), type := 0, pos := "law.go:31", after := #[{ on := 4, ground := Ground.data }, { on := 1, ground := Ground.data }, { on := 3, ground := Ground.chain }, { on := 0, ground := Ground.phase }, { on := 1, ground := Ground.phase }, { on := 2, ground := Ground.textOnly Departure.lateStores }, { on := 3, ground := Ground.textOnly Departure.lateStoresUnsure }, { on := 4, ground := Ground.phase }, { on := 5, ground := Ground.phase }], guard := none }) rfl (fun K hK => ?_) AllReadyH.nil
          have HZ : Hid (w1.heap.size ≤ (v2.heap.size + 1) ∧ w1.heap.size ≤ (v2.heap.size) ∧ (v2.heap.size + 1) ≠ (v2.heap.size) ∧ (v2.heap.size) ≠ (v2.heap.size + 1)) := Lib.hid (by have s1 := HS1.out; have s2 := HS2.out; (try simp at s1); (try simp at s2); (refine ⟨?_, ?_, ?_, ?_⟩) <;> (first | omega | (simp; done) | (simp; omega)))
          have ka := H.out.2 _ (List.mem_cons_self ..)
          have a0 := ka.cell 0
          have a1 := ka.cell 1
          have a2 := ka.cell 2
          have a3 := ka.cell 3
          have a4 := ka.cell 4
          have af := fun o => ka.frozen o
          have kb := H.out.2 _ (List.mem_cons_of_mem _ (List.mem_cons_self ..))
          have b0 := kb.cell 0
          have b1 := kb.cell 1
          have b2 := kb.cell 2
          have bf := fun o => kb.frozen o
          go_simp
          go_wp2_with fail
          refine hK.out _ _ ?_ (fun hHeld => ?_)
          · refine HC1.out _ ?_; (repeat' first | (with_reducible exact DV) | (with_reducible exact Below.refl _ _) | (with_reducible refine Below.drew ?_) | (with_reducible refine Below.setCell ?_ ?_ _) | (with_reducible refine Below.alloc ?_ ?_ _) | exact DV.size | exact HZ.out.1 | exact HZ.out.2.1 | exact Nat.le_refl _ | (simp; done) | (have := DV.size; simp; omega) | (simp; omega))
          clear hK K
          try simp only [Act.put, List.setIfInBounds_toArray, List.set_cons_zero, List.set_cons_succ]
          clear ka kb af bf a0 a1 a2 a3 a4 b0 b1 b2
          have H := Lib.hid ((HV.out.new #[.string ⟨#[]⟩, .int .i64 0, .int .i64 0] 34).new #[.int .u8 (fk : Int), .string fK, .string fT, .int .i64 fl, .int .i64 fm] 37)
          rw [show (v2.alloc (.cells #[.string ⟨#[]⟩, .int .i64 0, .int .i64 0] 34)).heap.size = v2.heap.size + 1 by simp] at H
          refine wpAnyH_ready (rs := [7]) (by kernel_rfl) (by simp) ?_
          refine AllReadyH.cons (o := { dst := none, op := Op.store 34 (Operand.tmp 8) (Operand.tmp 30), type := 0, pos := "law.go:31", after := #[{ on := 5, ground := Ground.data }, { on := 3, ground := Ground.data }, { on := 6, ground := Ground.chain }, { on := 0, ground := Ground.phase }, { on := 1, ground := Ground.phase }, { on := 2, ground := Ground.phase }, { on := 3, ground := Ground.phase }, { on := 4, ground := Ground.phase }, { on := 5, ground := Ground.phase }, { on := 6, ground := Ground.phase }], guard := none }) rfl (fun K hK => ?_) AllReadyH.nil
          have ka := H.out.2 _ (List.mem_cons_self ..)
          have a0 := ka.cell 0
          have a1 := ka.cell 1
          have a2 := ka.cell 2
          have a3 := ka.cell 3
          have a4 := ka.cell 4
          have af := fun o => ka.frozen o
          have kb := H.out.2 _ (List.mem_cons_of_mem _ (List.mem_cons_self ..))
          have b0 := kb.cell 0
          have b1 := kb.cell 1
          have b2 := kb.cell 2
          have bf := fun o => kb.frozen o
          go_simp
          go_wp2_with fail
          refine hK.out _ _ ?_ (fun hHeld => ?_)
          · refine HC1.out _ ?_; (repeat' first | (with_reducible exact DV) | (with_reducible exact Below.refl _ _) | (with_reducible refine Below.drew ?_) | (with_reducible refine Below.setCell ?_ ?_ _) | (with_reducible refine Below.alloc ?_ ?_ _) | exact DV.size | exact HZ.out.1 | exact HZ.out.2.1 | exact Nat.le_refl _ | (simp; done) | (have := DV.size; simp; omega) | (simp; omega))
          clear hK K
          try simp only [Act.put, List.setIfInBounds_toArray, List.set_cons_zero, List.set_cons_succ]
          clear ka kb af bf a0 a1 a2 a3 a4 b0 b1 b2
          have H := Lib.hid ((HV.out.new #[.string k, .int .i64 s, .int .i64 e] 34).new #[.int .u8 (fk : Int), .string fK, .string fT, .int .i64 fl, .int .i64 fm] 37)
          rw [show (v2.alloc (.cells #[.string k, .int .i64 s, .int .i64 e] 34)).heap.size = v2.heap.size + 1 by simp] at H
          refine wpAnyH_done (by kernel_rfl) ?_ _
          go_wp2_with fail
          go_meet
          first
            | exact ⟨_, _, rfl, rfl, H.out⟩
            | exact ⟨_, _, rfl, rfl, H.out.swap8⟩
      · go_simp
        go_wp2_with fail
        refine hK.out _ _ ?_ (fun hHeld => ?_)
        · refine HC1.out _ ?_; (repeat' first | (with_reducible exact DV) | (with_reducible exact Below.refl _ _) | (with_reducible refine Below.drew ?_) | (with_reducible refine Below.setCell ?_ ?_ _) | (with_reducible refine Below.alloc ?_ ?_ _) | exact DV.size | exact HZ.out.1 | exact HZ.out.2.1 | exact Nat.le_refl _ | (simp; done) | (have := DV.size; simp; omega) | (simp; omega))
        clear hK K
        try simp only [Act.put, List.setIfInBounds_toArray, List.set_cons_zero, List.set_cons_succ]
        have H := Lib.hid (H.out.new #[.int .u8 0, .string ⟨#[]⟩, .string ⟨#[]⟩, .int .i64 0, .int .i64 0] 37)
        refine wpAnyH_ready (rs := [3, 5]) (by kernel_rfl) (by simp) ?_
        refine AllReadyH.cons (o := { dst := some 30, op := Op.call { callee := Callee.value (Operand.func 11), args := #[Operand.tmp 29], argTypes := #[33] }, type := 34, pos := "law.go:31", after := #[{ on := 2, ground := Ground.data }, { on := 1, ground := Ground.chain }], guard := none }) rfl (fun K hK => ?_) (AllReadyH.cons (o := { dst := some 8, op := Op.alloc 34, type := 0, pos := "law.go:31", after := #[], guard := none }) rfl (fun K hK => ?_) AllReadyH.nil)
        · go_simp
          go_at_call 11
          refine (lpane_any k s e _).mono ?_
          rintro x v2 ⟨rfl, b2⟩
          have H := Lib.hid (H.out.step b2)
          have HS2 := Lib.hid (show (v1.alloc (.cells #[.int .u8 0, .string ⟨#[]⟩, .string ⟨#[]⟩, .int .i64 0, .int .i64 0] 37)).heap.size ≤ v2.heap.size from b2.size)
          have DV := H.out.1
          have HV := H
          clear b2
          go_wp2_with fail
          refine hK.out _ _ ?_ (fun hHeld => ?_)
          · refine HC1.out _ ?_; (repeat' first | (with_reducible exact DV) | (with_reducible exact Below.refl _ _) | (with_reducible refine Below.drew ?_) | (with_reducible refine Below.setCell ?_ ?_ _) | (with_reducible refine Below.alloc ?_ ?_ _) | exact DV.size | exact HZ.out.1 | exact HZ.out.2.1 | exact Nat.le_refl _ | (simp; done) | (have := DV.size; simp; omega) | (simp; omega))
          clear hK K
          try simp only [Act.put, List.setIfInBounds_toArray, List.set_cons_zero, List.set_cons_succ]
          refine wpAnyH_ready (rs := [5]) (by kernel_rfl) (by simp) ?_
          refine AllReadyH.cons (o := { dst := some 8, op := Op.alloc 34, type := 0, pos := "law.go:31", after := #[], guard := none }) rfl (fun K hK => ?_) AllReadyH.nil
          go_simp
          go_wp2_with fail
          refine hK.out _ _ ?_ (fun hHeld => ?_)
          · refine HC1.out _ ?_; (repeat' first | (with_reducible exact DV) | (with_reducible exact Below.refl _ _) | (with_reducible refine Below.drew ?_) | (with_reducible refine Below.setCell ?_ ?_ _) | (with_reducible refine Below.alloc ?_ ?_ _) | exact DV.size | exact HZ.out.1 | exact HZ.out.2.1 | exact Nat.le_refl _ | (simp; done) | (have := DV.size; simp; omega) | (simp; omega))
          clear hK K
          try simp only [Act.put, List.setIfInBounds_toArray, List.set_cons_zero, List.set_cons_succ]
          have H := Lib.hid (H.out.new #[.string ⟨#[]⟩, .int .i64 0, .int .i64 0] 34)
          refine wpAnyH_ready (rs := [6]) (by kernel_rfl) (by simp) ?_
          refine AllReadyH.cons (o := { dst := none, op := Op.store 37 (Operand.tmp 7) (Operand.tmp 28), type := 0, pos := "law.go:31", after := #[{ on := 4, ground := Ground.data }, { on := 1, ground := Ground.data }, { on := 3, ground := Ground.chain }, { on := 0, ground := Ground.phase }, { on := 1, ground := Ground.phase }, { on := 2, ground := Ground.textOnly Departure.lateStores }, { on := 3, ground := Ground.textOnly Departure.lateStoresUnsure }, { on := 4, ground := Ground.phase }, { on := 5, ground := Ground.phase }], guard := none }) rfl (fun K hK => ?_) AllReadyH.nil
          have HZ : Hid (w1.heap.size ≤ (v1.heap.size) ∧ w1.heap.size ≤ (v2.heap.size) ∧ (v1.heap.size) ≠ (v2.heap.size) ∧ (v2.heap.size) ≠ (v1.heap.size)) := Lib.hid (by have s1 := HS1.out; have s2 := HS2.out; (try simp at s1); (try simp at s2); (refine ⟨?_, ?_, ?_, ?_⟩) <;> (first | omega | (simp; done) | (simp; omega)))
          have kb := H.out.2 _ (List.mem_cons_self ..)
          have b0 := kb.cell 0
          have b1 := kb.cell 1
          have b2 := kb.cell 2
          have bf := fun o => kb.frozen o
          have ka := H.out.2 _ (List.mem_cons_of_mem _ (List.mem_cons_self ..))
          have a0 := ka.cell 0
          have a1 := ka.cell 1
          have a2 := ka.cell 2
          have a3 := ka.cell 3
          have a4 := ka.cell 4
          have af := fun o => ka.frozen o
          go_simp
          go_wp2_with fail
          refine hK.out _ _ ?_ (fun hHeld => ?_)
          · refine HC1.out _ ?_; (repeat' first | (with_reducible exact DV) | (with_reducible exact Below.refl _ _) | (with_reducible refine Below.drew ?_) | (with_reducible refine Below.setCell ?_ ?_ _) | (with_reducible refine Below.alloc ?_ ?_ _) | exact DV.size | exact HZ.out.1 | exact HZ.out.2.1 | exact Nat.le_refl _ | (simp; done) | (have := DV.size; simp; omega) | (simp; omega))
          clear hK K
          try simp only [Act.put, List.setIfInBounds_toArray, List.set_cons_zero, List.set_cons_succ]
          clear ka kb af bf a0 a1 a2 a3 a4 b0 b1 b2
          have H := Lib.hid ((H.out.swap8).five8 HZ.out.1 (ne8 HZ.out.2.2.1) (.int .u8 (fk : Int)) (.string fK) (.string fT) (.int .i64 fl) (.int .i64 fm))
          refine wpAnyH_ready (rs := [7]) (by kernel_rfl) (by simp) ?_
          refine AllReadyH.cons (o := { dst := none, op := Op.store 34 (Operand.tmp 8) (Operand.tmp 30), type := 0, pos := "law.go:31", after := #[{ on := 5, ground := Ground.data }, { on := 3, ground := Ground.data }, { on := 6, ground := Ground.chain }, { on := 0, ground := Ground.phase }, { on := 1, ground := Ground.phase }, { on := 2, ground := Ground.phase }, { on := 3, ground := Ground.phase }, { on := 4, ground := Ground.phase }, { on := 5, ground := Ground.phase }, { on := 6, ground := Ground.phase }], guard := none }) rfl (fun K hK => ?_) AllReadyH.nil
          have ka := H.out.2 _ (List.mem_cons_self ..)
          have a0 := ka.cell 0
          have a1 := ka.cell 1
          have a2 := ka.cell 2
          have a3 := ka.cell 3
          have a4 := ka.cell 4
          have af := fun o => ka.frozen o
          have kb := H.out.2 _ (List.mem_cons_of_mem _ (List.mem_cons_self ..))
          have b0 := kb.cell 0
          have b1 := kb.cell 1
          have b2 := kb.cell 2
          have bf := fun o => kb.frozen o
          go_simp
          go_wp2_with fail
          refine hK.out _ _ ?_ (fun hHeld => ?_)
          · refine HC1.out _ ?_; (repeat' first | (with_reducible exact DV) | (with_reducible exact Below.refl _ _) | (with_reducible refine Below.drew ?_) | (with_reducible refine Below.setCell ?_ ?_ _) | (with_reducible refine Below.alloc ?_ ?_ _) | exact DV.size | exact HZ.out.1 | exact HZ.out.2.1 | exact Nat.le_refl _ | (simp; done) | (have := DV.size; simp; omega) | (simp; omega))
          clear hK K
          try simp only [Act.put, List.setIfInBounds_toArray, List.set_cons_zero, List.set_cons_succ]
          clear ka kb af bf a0 a1 a2 a3 a4 b0 b1 b2
          have H := Lib.hid ((H.out.swap8).three8 HZ.out.2.1 (ne8 HZ.out.2.2.2) (.string k) (.int .i64 s) (.int .i64 e))
          refine wpAnyH_done (by kernel_rfl) ?_ _
          go_wp2_with fail
          go_meet
          first
            | exact ⟨_, _, rfl, rfl, H.out⟩
            | exact ⟨_, _, rfl, rfl, H.out.swap8⟩
        · go_simp
          go_wp2_with fail
          refine hK.out _ _ ?_ (fun hHeld => ?_)
          · refine HC1.out _ ?_; (repeat' first | (with_reducible exact DV) | (with_reducible exact Below.refl _ _) | (with_reducible refine Below.drew ?_) | (with_reducible refine Below.setCell ?_ ?_ _) | (with_reducible refine Below.alloc ?_ ?_ _) | exact DV.size | exact HZ.out.1 | exact HZ.out.2.1 | exact Nat.le_refl _ | (simp; done) | (have := DV.size; simp; omega) | (simp; omega))
          clear hK K
          try simp only [Act.put, List.setIfInBounds_toArray, List.set_cons_zero, List.set_cons_succ]
          have H := Lib.hid (H.out.new #[.string ⟨#[]⟩, .int .i64 0, .int .i64 0] 34)
          rw [show (v1.alloc (.cells #[.int .u8 0, .string ⟨#[]⟩, .string ⟨#[]⟩, .int .i64 0, .int .i64 0] 37)).heap.size = v1.heap.size + 1 by simp] at H
          refine wpAnyH_ready (rs := [3]) (by kernel_rfl) (by simp) ?_
          refine AllReadyH.cons (o := { dst := some 30, op := Op.call { callee := Callee.value (Operand.func 11), args := #[Operand.tmp 29], argTypes := #[33] }, type := 34, pos := "law.go:31", after := #[{ on := 2, ground := Ground.data }, { on := 1, ground := Ground.chain }], guard := none }) rfl (fun K hK => ?_) AllReadyH.nil
          go_simp
          go_at_call 11
          refine (lpane_any k s e _).mono ?_
          rintro x v2 ⟨rfl, b2⟩
          have H := Lib.hid (H.out.step b2)
          have HS2 := Lib.hid (show ((v1.alloc (.cells #[.int .u8 0, .string ⟨#[]⟩, .string ⟨#[]⟩, .int .i64 0, .int .i64 0] 37)).alloc (.cells #[.string ⟨#[]⟩, .int .i64 0, .int .i64 0] 34)).heap.size ≤ v2.heap.size from b2.size)
          have DV := H.out.1
          have HV := H
          clear b2
          go_wp2_with fail
          refine hK.out _ _ ?_ (fun hHeld => ?_)
          · refine HC1.out _ ?_; (repeat' first | (with_reducible exact DV) | (with_reducible exact Below.refl _ _) | (with_reducible refine Below.drew ?_) | (with_reducible refine Below.setCell ?_ ?_ _) | (with_reducible refine Below.alloc ?_ ?_ _) | exact DV.size | exact HZ.out.1 | exact HZ.out.2.1 | exact Nat.le_refl _ | (simp; done) | (have := DV.size; simp; omega) | (simp; omega))
          clear hK K
          try simp only [Act.put, List.setIfInBounds_toArray, List.set_cons_zero, List.set_cons_succ]
          refine wpAnyH_ready (rs := [6]) (by kernel_rfl) (by simp) ?_
          refine AllReadyH.cons (o := { dst := none, op := Op.store 37 (Operand.tmp 7) (Operand.tmp 28), type := 0, pos := "law.go:31", after := #[{ on := 4, ground := Ground.data }, { on := 1, ground := Ground.data }, { on := 3, ground := Ground.chain }, { on := 0, ground := Ground.phase }, { on := 1, ground := Ground.phase }, { on := 2, ground := Ground.textOnly Departure.lateStores }, { on := 3, ground := Ground.textOnly Departure.lateStoresUnsure }, { on := 4, ground := Ground.phase }, { on := 5, ground := Ground.phase }], guard := none }) rfl (fun K hK => ?_) AllReadyH.nil
          have HZ : Hid (w1.heap.size ≤ (v1.heap.size) ∧ w1.heap.size ≤ (v1.heap.size + 1) ∧ (v1.heap.size) ≠ (v1.heap.size + 1) ∧ (v1.heap.size + 1) ≠ (v1.heap.size)) := Lib.hid (by have s1 := HS1.out; have s2 := HS2.out; (try simp at s1); (try simp at s2); (refine ⟨?_, ?_, ?_, ?_⟩) <;> (first | omega | (simp; done) | (simp; omega)))
          have kb := H.out.2 _ (List.mem_cons_self ..)
          have b0 := kb.cell 0
          have b1 := kb.cell 1
          have b2 := kb.cell 2
          have bf := fun o => kb.frozen o
          have ka := H.out.2 _ (List.mem_cons_of_mem _ (List.mem_cons_self ..))
          have a0 := ka.cell 0
          have a1 := ka.cell 1
          have a2 := ka.cell 2
          have a3 := ka.cell 3
          have a4 := ka.cell 4
          have af := fun o => ka.frozen o
          go_simp
          go_wp2_with fail
          refine hK.out _ _ ?_ (fun hHeld => ?_)
          · refine HC1.out _ ?_; (repeat' first | (with_reducible exact DV) | (with_reducible exact Below.refl _ _) | (with_reducible refine Below.drew ?_) | (with_reducible refine Below.setCell ?_ ?_ _) | (with_reducible refine Below.alloc ?_ ?_ _) | exact DV.size | exact HZ.out.1 | exact HZ.out.2.1 | exact Nat.le_refl _ | (simp; done) | (have := DV.size; simp; omega) | (simp; omega))
          clear hK K
          try simp only [Act.put, List.setIfInBounds_toArray, List.set_cons_zero, List.set_cons_succ]
          clear ka kb af bf a0 a1 a2 a3 a4 b0 b1 b2
          have H := Lib.hid ((H.out.swap8).five8 HZ.out.1 (ne8 HZ.out.2.2.1) (.int .u8 (fk : Int)) (.string fK) (.string fT) (.int .i64 fl) (.int .i64 fm))
          refine wpAnyH_ready (rs := [7]) (by kernel_rfl) (by simp) ?_
          refine AllReadyH.cons (o := { dst := none, op := Op.store 34 (Operand.tmp 8) (Operand.tmp 30), type := 0, pos := "law.go:31", after := #[{ on := 5, ground := Ground.data }, { on := 3, ground := Ground.data }, { on := 6, ground := Ground.chain }, { on := 0, ground := Ground.phase }, { on := 1, ground := Ground.phase }, { on := 2, ground := Ground.phase }, { on := 3, ground := Ground.phase }, { on := 4, ground := Ground.phase }, { on := 5, ground := Ground.phase }, { on := 6, ground := Ground.phase }], guard := none }) rfl (fun K hK => ?_) AllReadyH.nil
          have ka := H.out.2 _ (List.mem_cons_self ..)
          have a0 := ka.cell 0
          have a1 := ka.cell 1
          have a2 := ka.cell 2
          have a3 := ka.cell 3
          have a4 := ka.cell 4
          have af := fun o => ka.frozen o
          have kb := H.out.2 _ (List.mem_cons_of_mem _ (List.mem_cons_self ..))
          have b0 := kb.cell 0
          have b1 := kb.cell 1
          have b2 := kb.cell 2
          have bf := fun o => kb.frozen o
          go_simp
          go_wp2_with fail
          refine hK.out _ _ ?_ (fun hHeld => ?_)
          · refine HC1.out _ ?_; (repeat' first | (with_reducible exact DV) | (with_reducible exact Below.refl _ _) | (with_reducible refine Below.drew ?_) | (with_reducible refine Below.setCell ?_ ?_ _) | (with_reducible refine Below.alloc ?_ ?_ _) | exact DV.size | exact HZ.out.1 | exact HZ.out.2.1 | exact Nat.le_refl _ | (simp; done) | (have := DV.size; simp; omega) | (simp; omega))
          clear hK K
          try simp only [Act.put, List.setIfInBounds_toArray, List.set_cons_zero, List.set_cons_succ]
          clear ka kb af bf a0 a1 a2 a3 a4 b0 b1 b2
          have H := Lib.hid ((H.out.swap8).three8 HZ.out.2.1 (ne8 HZ.out.2.2.2) (.string k) (.int .i64 s) (.int .i64 e))
          refine wpAnyH_done (by kernel_rfl) ?_ _
          go_wp2_with fail
          go_meet
          first
            | exact ⟨_, _, rfl, rfl, H.out⟩
            | exact ⟨_, _, rfl, rfl, H.out.swap8⟩
      · go_simp
        go_wp2_with fail
        refine hK.out _ _ ?_ (fun hHeld => ?_)
        · refine HC1.out _ ?_; (repeat' first | (with_reducible exact DV) | (with_reducible exact Below.refl _ _) | (with_reducible refine Below.drew ?_) | (with_reducible refine Below.setCell ?_ ?_ _) | (with_reducible refine Below.alloc ?_ ?_ _) | exact DV.size | exact HZ.out.1 | exact HZ.out.2.1 | exact Nat.le_refl _ | (simp; done) | (have := DV.size; simp; omega) | (simp; omega))
        clear hK K
        try simp only [Act.put, List.setIfInBounds_toArray, List.set_cons_zero, List.set_cons_succ]
        have H := Lib.hid (H.out.new #[.string ⟨#[]⟩, .int .i64 0, .int .i64 0] 34)
        refine wpAnyH_ready (rs := [3, 4]) (by kernel_rfl) (by simp) ?_
        refine AllReadyH.cons (o := { dst := some 30, op := Op.call { callee := Callee.value (Operand.func 11), args := #[Operand.tmp 29], argTypes := #[33] }, type := 34, pos := "law.go:31", after := #[{ on := 2, ground := Ground.data }, { on := 1, ground := Ground.chain }], guard := none }) rfl (fun K hK => ?_) (AllReadyH.cons (o := { dst := some 7, op := Op.alloc 37, type := 0, pos := "law.go:31", after := #[], guard := none }) rfl (fun K hK => ?_) AllReadyH.nil)
        · go_simp
          go_at_call 11
          refine (lpane_any k s e _).mono ?_
          rintro x v2 ⟨rfl, b2⟩
          have H := Lib.hid (H.out.step b2)
          have HS2 := Lib.hid (show (v1.alloc (.cells #[.string ⟨#[]⟩, .int .i64 0, .int .i64 0] 34)).heap.size ≤ v2.heap.size from b2.size)
          have DV := H.out.1
          have HV := H
          clear b2
          go_wp2_with fail
          refine hK.out _ _ ?_ (fun hHeld => ?_)
          · refine HC1.out _ ?_; (repeat' first | (with_reducible exact DV) | (with_reducible exact Below.refl _ _) | (with_reducible refine Below.drew ?_) | (with_reducible refine Below.setCell ?_ ?_ _) | (with_reducible refine Below.alloc ?_ ?_ _) | exact DV.size | exact HZ.out.1 | exact HZ.out.2.1 | exact Nat.le_refl _ | (simp; done) | (have := DV.size; simp; omega) | (simp; omega))
          clear hK K
          try simp only [Act.put, List.setIfInBounds_toArray, List.set_cons_zero, List.set_cons_succ]
          refine wpAnyH_ready (rs := [4]) (by kernel_rfl) (by simp) ?_
          refine AllReadyH.cons (o := { dst := some 7, op := Op.alloc 37, type := 0, pos := "law.go:31", after := #[], guard := none }) rfl (fun K hK => ?_) AllReadyH.nil
          go_simp
          go_wp2_with fail
          refine hK.out _ _ ?_ (fun hHeld => ?_)
          · refine HC1.out _ ?_; (repeat' first | (with_reducible exact DV) | (with_reducible exact Below.refl _ _) | (with_reducible refine Below.drew ?_) | (with_reducible refine Below.setCell ?_ ?_ _) | (with_reducible refine Below.alloc ?_ ?_ _) | exact DV.size | exact HZ.out.1 | exact HZ.out.2.1 | exact Nat.le_refl _ | (simp; done) | (have := DV.size; simp; omega) | (simp; omega))
          clear hK K
          try simp only [Act.put, List.setIfInBounds_toArray, List.set_cons_zero, List.set_cons_succ]
          have H := Lib.hid (H.out.new #[.int .u8 0, .string ⟨#[]⟩, .string ⟨#[]⟩, .int .i64 0, .int .i64 0] 37)
          refine wpAnyH_ready (rs := [6]) (by kernel_rfl) (by simp) ?_
          refine AllReadyH.cons (o := { dst := none, op := Op.store 37 (Operand.tmp 7) (Operand.tmp 28), type := 0, pos := "law.go:31", after := #[{ on := 4, ground := Ground.data }, { on := 1, ground := Ground.data }, { on := 3, ground := Ground.chain }, { on := 0, ground := Ground.phase }, { on := 1, ground := Ground.phase }, { on := 2, ground := Ground.textOnly Departure.lateStores }, { on := 3, ground := Ground.textOnly Departure.lateStoresUnsure }, { on := 4, ground := Ground.phase }, { on := 5, ground := Ground.phase }], guard := none }) rfl (fun K hK => ?_) AllReadyH.nil
          have HZ : Hid (w1.heap.size ≤ (v2.heap.size) ∧ w1.heap.size ≤ (v1.heap.size) ∧ (v2.heap.size) ≠ (v1.heap.size) ∧ (v1.heap.size) ≠ (v2.heap.size)) := Lib.hid (by have s1 := HS1.out; have s2 := HS2.out; (try simp at s1); (try simp at s2); (refine ⟨?_, ?_, ?_, ?_⟩) <;> (first | omega | (simp; done) | (simp; omega)))
          have ka := H.out.2 _ (List.mem_cons_self ..)
          have a0 := ka.cell 0
          have a1 := ka.cell 1
          have a2 := ka.cell 2
          have a3 := ka.cell 3
          have a4 := ka.cell 4
          have af := fun o => ka.frozen o
          have kb := H.out.2 _ (List.mem_cons_of_mem _ (List.mem_cons_self ..))
          have b0 := kb.cell 0
          have b1 := kb.cell 1
          have b2 := kb.cell 2
          have bf := fun o => kb.frozen o
          go_simp
          go_wp2_with fail
          refine hK.out _ _ ?_ (fun hHeld => ?_)
          · refine HC1.out _ ?_; (repeat' first | (with_reducible exact DV) | (with_reducible exact Below.refl _ _) | (with_reducible refine Below.drew ?_) | (with_reducible refine Below.setCell ?_ ?_ _) | (with_reducible refine Below.alloc ?_ ?_ _) | exact DV.size | exact HZ.out.1 | exact HZ.out.2.1 | exact Nat.le_refl _ | (simp; done) | (have := DV.size; simp; omega) | (simp; omega))
          clear hK K
          try simp only [Act.put, List.setIfInBounds_toArray, List.set_cons_zero, List.set_cons_succ]
          clear ka kb af bf a0 a1 a2 a3 a4 b0 b1 b2
          have H := Lib.hid (HV.out.new #[.int .u8 (fk : Int), .string fK, .string fT, .int .i64 fl, .int .i64 fm] 37)
          refine wpAnyH_ready (rs := [7]) (by kernel_rfl) (by simp) ?_
          refine AllReadyH.cons (o := { dst := none, op := Op.store 34 (Operand.tmp 8) (Operand.tmp 30), type := 0, pos := "law.go:31", after := #[{ on := 5, ground := Ground.data }, { on := 3, ground := Ground.data }, { on := 6, ground := Ground.chain }, { on := 0, ground := Ground.phase }, { on := 1, ground := Ground.phase }, { on := 2, ground := Ground.phase }, { on := 3, ground := Ground.phase }, { on := 4, ground := Ground.phase }, { on := 5, ground := Ground.phase }, { on := 6, ground := Ground.phase }], guard := none }) rfl (fun K hK => ?_) AllReadyH.nil
          have ka := H.out.2 _ (List.mem_cons_self ..)
          have a0 := ka.cell 0
          have a1 := ka.cell 1
          have a2 := ka.cell 2
          have a3 := ka.cell 3
          have a4 := ka.cell 4
          have af := fun o => ka.frozen o
          have kb := H.out.2 _ (List.mem_cons_of_mem _ (List.mem_cons_self ..))
          have b0 := kb.cell 0
          have b1 := kb.cell 1
          have b2 := kb.cell 2
          have bf := fun o => kb.frozen o
          go_simp
          go_wp2_with fail
          refine hK.out _ _ ?_ (fun hHeld => ?_)
          · refine HC1.out _ ?_; (repeat' first | (with_reducible exact DV) | (with_reducible exact Below.refl _ _) | (with_reducible refine Below.drew ?_) | (with_reducible refine Below.setCell ?_ ?_ _) | (with_reducible refine Below.alloc ?_ ?_ _) | exact DV.size | exact HZ.out.1 | exact HZ.out.2.1 | exact Nat.le_refl _ | (simp; done) | (have := DV.size; simp; omega) | (simp; omega))
          clear hK K
          try simp only [Act.put, List.setIfInBounds_toArray, List.set_cons_zero, List.set_cons_succ]
          clear ka kb af bf a0 a1 a2 a3 a4 b0 b1 b2
          have H := Lib.hid ((H.out.swap8).three8 HZ.out.2.1 (ne8 HZ.out.2.2.2) (.string k) (.int .i64 s) (.int .i64 e))
          refine wpAnyH_done (by kernel_rfl) ?_ _
          go_wp2_with fail
          go_meet
          first
            | exact ⟨_, _, rfl, rfl, H.out⟩
            | exact ⟨_, _, rfl, rfl, H.out.swap8⟩
        · go_simp
          go_wp2_with fail
          refine hK.out _ _ ?_ (fun hHeld => ?_)
          · refine HC1.out _ ?_; (repeat' first | (with_reducible exact DV) | (with_reducible exact Below.refl _ _) | (with_reducible refine Below.drew ?_) | (with_reducible refine Below.setCell ?_ ?_ _) | (with_reducible refine Below.alloc ?_ ?_ _) | exact DV.size | exact HZ.out.1 | exact HZ.out.2.1 | exact Nat.le_refl _ | (simp; done) | (have := DV.size; simp; omega) | (simp; omega))
          clear hK K
          try simp only [Act.put, List.setIfInBounds_toArray, List.set_cons_zero, List.set_cons_succ]
          have H := Lib.hid (H.out.new #[.int .u8 0, .string ⟨#[]⟩, .string ⟨#[]⟩, .int .i64 0, .int .i64 0] 37)
          rw [show (v1.alloc (.cells #[.string ⟨#[]⟩, .int .i64 0, .int .i64 0] 34)).heap.size = v1.heap.size + 1 by simp] at H
          refine wpAnyH_ready (rs := [3]) (by kernel_rfl) (by simp) ?_
          refine AllReadyH.cons (o := { dst := some 30, op := Op.call { callee := Callee.value (Operand.func 11), args := #[Operand.tmp 29], argTypes := #[33] }, type := 34, pos := "law.go:31", after := #[{ on := 2, ground := Ground.data }, { on := 1, ground := Ground.chain }], guard := none }) rfl (fun K hK => ?_) AllReadyH.nil
          go_simp
          go_at_call 11
          refine (lpane_any k s e _).mono ?_
          rintro x v2 ⟨rfl, b2⟩
          have H := Lib.hid (H.out.step b2)
          have HS2 := Lib.hid (show ((v1.alloc (.cells #[.string ⟨#[]⟩, .int .i64 0, .int .i64 0] 34)).alloc (.cells #[.int .u8 0, .string ⟨#[]⟩, .string ⟨#[]⟩, .int .i64 0, .int .i64 0] 37)).heap.size ≤ v2.heap.size from b2.size)
          have DV := H.out.1
          have HV := H
          clear b2
          go_wp2_with fail
          refine hK.out _ _ ?_ (fun hHeld => ?_)
          · refine HC1.out _ ?_; (repeat' first | (with_reducible exact DV) | (with_reducible exact Below.refl _ _) | (with_reducible refine Below.drew ?_) | (with_reducible refine Below.setCell ?_ ?_ _) | (with_reducible refine Below.alloc ?_ ?_ _) | exact DV.size | exact HZ.out.1 | exact HZ.out.2.1 | exact Nat.le_refl _ | (simp; done) | (have := DV.size; simp; omega) | (simp; omega))
          clear hK K
          try simp only [Act.put, List.setIfInBounds_toArray, List.set_cons_zero, List.set_cons_succ]
          refine wpAnyH_ready (rs := [6]) (by kernel_rfl) (by simp) ?_
          refine AllReadyH.cons (o := { dst := none, op := Op.store 37 (Operand.tmp 7) (Operand.tmp 28), type := 0, pos := "law.go:31", after := #[{ on := 4, ground := Ground.data }, { on := 1, ground := Ground.data }, { on := 3, ground := Ground.chain }, { on := 0, ground := Ground.phase }, { on := 1, ground := Ground.phase }, { on := 2, ground := Ground.textOnly Departure.lateStores }, { on := 3, ground := Ground.textOnly Departure.lateStoresUnsure }, { on := 4, ground := Ground.phase }, { on := 5, ground := Ground.phase }], guard := none }) rfl (fun K hK => ?_) AllReadyH.nil
          have HZ : Hid (w1.heap.size ≤ (v1.heap.size + 1) ∧ w1.heap.size ≤ (v1.heap.size) ∧ (v1.heap.size + 1) ≠ (v1.heap.size) ∧ (v1.heap.size) ≠ (v1.heap.size + 1)) := Lib.hid (by have s1 := HS1.out; have s2 := HS2.out; (try simp at s1); (try simp at s2); (refine ⟨?_, ?_, ?_, ?_⟩) <;> (first | omega | (simp; done) | (simp; omega)))
          have ka := H.out.2 _ (List.mem_cons_self ..)
          have a0 := ka.cell 0
          have a1 := ka.cell 1
          have a2 := ka.cell 2
          have a3 := ka.cell 3
          have a4 := ka.cell 4
          have af := fun o => ka.frozen o
          have kb := H.out.2 _ (List.mem_cons_of_mem _ (List.mem_cons_self ..))
          have b0 := kb.cell 0
          have b1 := kb.cell 1
          have b2 := kb.cell 2
          have bf := fun o => kb.frozen o
          go_simp
          go_wp2_with fail
          refine hK.out _ _ ?_ (fun hHeld => ?_)
          · refine HC1.out _ ?_; (repeat' first | (with_reducible exact DV) | (with_reducible exact Below.refl _ _) | (with_reducible refine Below.drew ?_) | (with_reducible refine Below.setCell ?_ ?_ _) | (with_reducible refine Below.alloc ?_ ?_ _) | exact DV.size | exact HZ.out.1 | exact HZ.out.2.1 | exact Nat.le_refl _ | (simp; done) | (have := DV.size; simp; omega) | (simp; omega))
          clear hK K
          try simp only [Act.put, List.setIfInBounds_toArray, List.set_cons_zero, List.set_cons_succ]
          clear ka kb af bf a0 a1 a2 a3 a4 b0 b1 b2
          have H := Lib.hid ((H.out).five8 HZ.out.1 (ne8 HZ.out.2.2.1) (.int .u8 (fk : Int)) (.string fK) (.string fT) (.int .i64 fl) (.int .i64 fm))
          refine wpAnyH_ready (rs := [7]) (by kernel_rfl) (by simp) ?_
          refine AllReadyH.cons (o := { dst := none, op := Op.store 34 (Operand.tmp 8) (Operand.tmp 30), type := 0, pos := "law.go:31", after := #[{ on := 5, ground := Ground.data }, { on := 3, ground := Ground.data }, { on := 6, ground := Ground.chain }, { on := 0, ground := Ground.phase }, { on := 1, ground := Ground.phase }, { on := 2, ground := Ground.phase }, { on := 3, ground := Ground.phase }, { on := 4, ground := Ground.phase }, { on := 5, ground := Ground.phase }, { on := 6, ground := Ground.phase }], guard := none }) rfl (fun K hK => ?_) AllReadyH.nil
          have ka := H.out.2 _ (List.mem_cons_self ..)
          have a0 := ka.cell 0
          have a1 := ka.cell 1
          have a2 := ka.cell 2
          have a3 := ka.cell 3
          have a4 := ka.cell 4
          have af := fun o => ka.frozen o
          have kb := H.out.2 _ (List.mem_cons_of_mem _ (List.mem_cons_self ..))
          have b0 := kb.cell 0
          have b1 := kb.cell 1
          have b2 := kb.cell 2
          have bf := fun o => kb.frozen o
          go_simp
          go_wp2_with fail
          refine hK.out _ _ ?_ (fun hHeld => ?_)
          · refine HC1.out _ ?_; (repeat' first | (with_reducible exact DV) | (with_reducible exact Below.refl _ _) | (with_reducible refine Below.drew ?_) | (with_reducible refine Below.setCell ?_ ?_ _) | (with_reducible refine Below.alloc ?_ ?_ _) | exact DV.size | exact HZ.out.1 | exact HZ.out.2.1 | exact Nat.le_refl _ | (simp; done) | (have := DV.size; simp; omega) | (simp; omega))
          clear hK K
          try simp only [Act.put, List.setIfInBounds_toArray, List.set_cons_zero, List.set_cons_succ]
          clear ka kb af bf a0 a1 a2 a3 a4 b0 b1 b2
          have H := Lib.hid ((H.out.swap8).three8 HZ.out.2.1 (ne8 HZ.out.2.2.2) (.string k) (.int .i64 s) (.int .i64 e))
          refine wpAnyH_done (by kernel_rfl) ?_ _
          go_wp2_with fail
          go_meet
          first
            | exact ⟨_, _, rfl, rfl, H.out⟩
            | exact ⟨_, _, rfl, rfl, H.out.swap8⟩
    · go_simp
      go_wp2_with fail
      refine hK.out _ _ ?_ (fun hHeld => ?_)
      · refine HC1.out _ ?_; (repeat' first | (with_reducible exact DV) | (with_reducible exact Below.refl _ _) | (with_reducible refine Below.drew ?_) | (with_reducible refine Below.setCell ?_ ?_ _) | (with_reducible refine Below.alloc ?_ ?_ _) | exact DV.size | exact HZ.out.1 | exact HZ.out.2.1 | exact Nat.le_refl _ | (simp; done) | (have := DV.size; simp; omega) | (simp; omega))
      clear hK K
      try simp only [Act.put, List.setIfInBounds_toArray, List.set_cons_zero, List.set_cons_succ]
      have H := Lib.hid (H.out.new #[.int .u8 0, .string ⟨#[]⟩, .string ⟨#[]⟩, .int .i64 0, .int .i64 0] 37)
      refine wpAnyH_ready (rs := [1, 5]) (by kernel_rfl) (by simp) ?_
      refine AllReadyH.cons (o := { dst := some 28, op := Op.call { callee := Callee.value (Operand.func 13), args := #[Operand.tmp 27], argTypes := #[23] }, type := 37, pos := "law.go:31", after := #[{ on := 0, ground := Ground.data }], guard := none }) rfl (fun K hK => ?_) (AllReadyH.cons (o := { dst := some 8, op := Op.alloc 34, type := 0, pos := "law.go:31", after := #[], guard := none }) rfl (fun K hK => ?_) AllReadyH.nil)
      · go_simp
        go_at_call 13
        refine (lref_any (fk : Int) fK fT fl fm _).mono ?_
        rintro x v1 ⟨rfl, b1⟩
        have H := Lib.hid (H.out.step (below_next ((Below.refl (w1.alloc (.cells #[.int .u8 0, .string ⟨#[]⟩, .string ⟨#[]⟩, .int .i64 0, .int .i64 0] 37)).heap.size (w1.alloc (.cells #[.int .u8 0, .string ⟨#[]⟩, .string ⟨#[]⟩, .int .i64 0, .int .i64 0] 37))).drew) (show Below (w1.alloc (.cells #[.int .u8 0, .string ⟨#[]⟩, .string ⟨#[]⟩, .int .i64 0, .int .i64 0] 37)).drew.heap.size (w1.alloc (.cells #[.int .u8 0, .string ⟨#[]⟩, .string ⟨#[]⟩, .int .i64 0, .int .i64 0] 37)).drew v1 from b1)))
        have HS1 := Lib.hid (show (w1.alloc (.cells #[.int .u8 0, .string ⟨#[]⟩, .string ⟨#[]⟩, .int .i64 0, .int .i64 0] 37)).heap.size ≤ v1.heap.size from b1.size)
        have DV := H.out.1
        clear b1
        go_wp2_with fail
        refine hK.out _ _ ?_ (fun hHeld => ?_)
        · refine HC1.out _ ?_; (repeat' first | (with_reducible exact DV) | (with_reducible exact Below.refl _ _) | (with_reducible refine Below.drew ?_) | (with_reducible refine Below.setCell ?_ ?_ _) | (with_reducible refine Below.alloc ?_ ?_ _) | exact DV.size | exact HZ.out.1 | exact HZ.out.2.1 | exact Nat.le_refl _ | (simp; done) | (have := DV.size; simp; omega) | (simp; omega))
        clear hK K
        try simp only [Act.put, List.setIfInBounds_toArray, List.set_cons_zero, List.set_cons_succ]
        refine wpAnyH_ready (rs := [3, 5]) (by kernel_rfl) (by simp) ?_
        refine AllReadyH.cons (o := { dst := some 30, op := Op.call { callee := Callee.value (Operand.func 11), args := #[Operand.tmp 29], argTypes := #[33] }, type := 34, pos := "law.go:31", after := #[{ on := 2, ground := Ground.data }, { on := 1, ground := Ground.chain }], guard := none }) rfl (fun K hK => ?_) (AllReadyH.cons (o := { dst := some 8, op := Op.alloc 34, type := 0, pos := "law.go:31", after := #[], guard := none }) rfl (fun K hK => ?_) AllReadyH.nil)
        · go_simp
          go_at_call 11
          refine (lpane_any k s e _).mono ?_
          rintro x v2 ⟨rfl, b2⟩
          have H := Lib.hid (H.out.step b2)
          have HS2 := Lib.hid (show v1.heap.size ≤ v2.heap.size from b2.size)
          have DV := H.out.1
          have HV := H
          clear b2
          go_wp2_with fail
          refine hK.out _ _ ?_ (fun hHeld => ?_)
          · refine HC1.out _ ?_; (repeat' first | (with_reducible exact DV) | (with_reducible exact Below.refl _ _) | (with_reducible refine Below.drew ?_) | (with_reducible refine Below.setCell ?_ ?_ _) | (with_reducible refine Below.alloc ?_ ?_ _) | exact DV.size | exact HZ.out.1 | exact HZ.out.2.1 | exact Nat.le_refl _ | (simp; done) | (have := DV.size; simp; omega) | (simp; omega))
          clear hK K
          try simp only [Act.put, List.setIfInBounds_toArray, List.set_cons_zero, List.set_cons_succ]
          refine wpAnyH_ready (rs := [5]) (by kernel_rfl) (by simp) ?_
          refine AllReadyH.cons (o := { dst := some 8, op := Op.alloc 34, type := 0, pos := "law.go:31", after := #[], guard := none }) rfl (fun K hK => ?_) AllReadyH.nil
          go_simp
          go_wp2_with fail
          refine hK.out _ _ ?_ (fun hHeld => ?_)
          · refine HC1.out _ ?_; (repeat' first | (with_reducible exact DV) | (with_reducible exact Below.refl _ _) | (with_reducible refine Below.drew ?_) | (with_reducible refine Below.setCell ?_ ?_ _) | (with_reducible refine Below.alloc ?_ ?_ _) | exact DV.size | exact HZ.out.1 | exact HZ.out.2.1 | exact Nat.le_refl _ | (simp; done) | (have := DV.size; simp; omega) | (simp; omega))
          clear hK K
          try simp only [Act.put, List.setIfInBounds_toArray, List.set_cons_zero, List.set_cons_succ]
          have H := Lib.hid (H.out.new #[.string ⟨#[]⟩, .int .i64 0, .int .i64 0] 34)
          refine wpAnyH_ready (rs := [6]) (by kernel_rfl) (by simp) ?_
          refine AllReadyH.cons (o := { dst := none, op := Op.store 37 (Operand.tmp 7) (Operand.tmp 28), type := 0, pos := "law.go:31", after := #[{ on := 4, ground := Ground.data }, { on := 1, ground := Ground.data }, { on := 3, ground := Ground.chain }, { on := 0, ground := Ground.phase }, { on := 1, ground := Ground.phase }, { on := 2, ground := Ground.textOnly Departure.lateStores }, { on := 3, ground := Ground.textOnly Departure.lateStoresUnsure }, { on := 4, ground := Ground.phase }, { on := 5, ground := Ground.phase }], guard := none }) rfl (fun K hK => ?_) AllReadyH.nil
          have HZ : Hid (w1.heap.size ≤ (w1.heap.size) ∧ w1.heap.size ≤ (v2.heap.size) ∧ (w1.heap.size) ≠ (v2.heap.size) ∧ (v2.heap.size) ≠ (w1.heap.size)) := Lib.hid (by have s1 := HS1.out; have s2 := HS2.out; (try simp at s1); (try simp at s2); (refine ⟨?_, ?_, ?_, ?_⟩) <;> (first | omega | (simp; done) | (simp; omega)))
          have kb := H.out.2 _ (List.mem_cons_self ..)
          have b0 := kb.cell 0
          have b1 := kb.cell 1
          have b2 := kb.cell 2
          have bf := fun o => kb.frozen o
          have ka := H.out.2 _ (List.mem_cons_of_mem _ (List.mem_cons_self ..))
          have a0 := ka.cell 0
          have a1 := ka.cell 1
          have a2 := ka.cell 2
          have a3 := ka.cell 3
          have a4 := ka.cell 4
          have af := fun o => ka.frozen o
          go_simp
          go_wp2_with fail
          refine hK.out _ _ ?_ (fun hHeld => ?_)
          · refine HC1.out _ ?_; (repeat' first | (with_reducible exact DV) | (with_reducible exact Below.refl _ _) | (with_reducible refine Below.drew ?_) | (with_reducible refine Below.setCell ?_ ?_ _) | (with_reducible refine Below.alloc ?_ ?_ _) | exact DV.size | exact HZ.out.1 | exact HZ.out.2.1 | exact Nat.le_refl _ | (simp; done) | (have := DV.size; simp; omega) | (simp; omega))
          clear hK K
          try simp only [Act.put, List.setIfInBounds_toArray, List.set_cons_zero, List.set_cons_succ]
          clear ka kb af bf a0 a1 a2 a3 a4 b0 b1 b2
          have H := Lib.hid ((H.out.swap8).five8 HZ.out.1 (ne8 HZ.out.2.2.1) (.int .u8 (fk : Int)) (.string fK) (.string fT) (.int .i64 fl) (.int .i64 fm))
          refine wpAnyH_ready (rs := [7]) (by kernel_rfl) (by simp) ?_
          refine AllReadyH.cons (o := { dst := none, op := Op.store 34 (Operand.tmp 8) (Operand.tmp 30), type := 0, pos := "law.go:31", after := #[{ on := 5, ground := Ground.data }, { on := 3, ground := Ground.data }, { on := 6, ground := Ground.chain }, { on := 0, ground := Ground.phase }, { on := 1, ground := Ground.phase }, { on := 2, ground := Ground.phase }, { on := 3, ground := Ground.phase }, { on := 4, ground := Ground.phase }, { on := 5, ground := Ground.phase }, { on := 6, ground := Ground.phase }], guard := none }) rfl (fun K hK => ?_) AllReadyH.nil
          have ka := H.out.2 _ (List.mem_cons_self ..)
          have a0 := ka.cell 0
          have a1 := ka.cell 1
          have a2 := ka.cell 2
          have a3 := ka.cell 3
          have a4 := ka.cell 4
          have af := fun o => ka.frozen o
          have kb := H.out.2 _ (List.mem_cons_of_mem _ (List.mem_cons_self ..))
          have b0 := kb.cell 0
          have b1 := kb.cell 1
          have b2 := kb.cell 2
          have bf := fun o => kb.frozen o
          go_simp
          go_wp2_with fail
          refine hK.out _ _ ?_ (fun hHeld => ?_)
          · refine HC1.out _ ?_; (repeat' first | (with_reducible exact DV) | (with_reducible exact Below.refl _ _) | (with_reducible refine Below.drew ?_) | (with_reducible refine Below.setCell ?_ ?_ _) | (with_reducible refine Below.alloc ?_ ?_ _) | exact DV.size | exact HZ.out.1 | exact HZ.out.2.1 | exact Nat.le_refl _ | (simp; done) | (have := DV.size; simp; omega) | (simp; omega))
          clear hK K
          try simp only [Act.put, List.setIfInBounds_toArray, List.set_cons_zero, List.set_cons_succ]
          clear ka kb af bf a0 a1 a2 a3 a4 b0 b1 b2
          have H := Lib.hid ((H.out.swap8).three8 HZ.out.2.1 (ne8 HZ.out.2.2.2) (.string k) (.int .i64 s) (.int .i64 e))
          refine wpAnyH_done (by kernel_rfl) ?_ _
          go_wp2_with fail
          go_meet
          first
            | exact ⟨_, _, rfl, rfl, H.out⟩
            | exact ⟨_, _, rfl, rfl, H.out.swap8⟩
        · go_simp
          go_wp2_with fail
          refine hK.out _ _ ?_ (fun hHeld => ?_)
          · refine HC1.out _ ?_; (repeat' first | (with_reducible exact DV) | (with_reducible exact Below.refl _ _) | (with_reducible refine Below.drew ?_) | (with_reducible refine Below.setCell ?_ ?_ _) | (with_reducible refine Below.alloc ?_ ?_ _) | exact DV.size | exact HZ.out.1 | exact HZ.out.2.1 | exact Nat.le_refl _ | (simp; done) | (have := DV.size; simp; omega) | (simp; omega))
          clear hK K
          try simp only [Act.put, List.setIfInBounds_toArray, List.set_cons_zero, List.set_cons_succ]
          have H := Lib.hid (H.out.new #[.string ⟨#[]⟩, .int .i64 0, .int .i64 0] 34)
          refine wpAnyH_ready (rs := [3]) (by kernel_rfl) (by simp) ?_
          refine AllReadyH.cons (o := { dst := some 30, op := Op.call { callee := Callee.value (Operand.func 11), args := #[Operand.tmp 29], argTypes := #[33] }, type := 34, pos := "law.go:31", after := #[{ on := 2, ground := Ground.data }, { on := 1, ground := Ground.chain }], guard := none }) rfl (fun K hK => ?_) AllReadyH.nil
          go_simp
          go_at_call 11
          refine (lpane_any k s e _).mono ?_
          rintro x v2 ⟨rfl, b2⟩
          have H := Lib.hid (H.out.step b2)
          have HS2 := Lib.hid (show (v1.alloc (.cells #[.string ⟨#[]⟩, .int .i64 0, .int .i64 0] 34)).heap.size ≤ v2.heap.size from b2.size)
          have DV := H.out.1
          have HV := H
          clear b2
          go_wp2_with fail
          refine hK.out _ _ ?_ (fun hHeld => ?_)
          · refine HC1.out _ ?_; (repeat' first | (with_reducible exact DV) | (with_reducible exact Below.refl _ _) | (with_reducible refine Below.drew ?_) | (with_reducible refine Below.setCell ?_ ?_ _) | (with_reducible refine Below.alloc ?_ ?_ _) | exact DV.size | exact HZ.out.1 | exact HZ.out.2.1 | exact Nat.le_refl _ | (simp; done) | (have := DV.size; simp; omega) | (simp; omega))
          clear hK K
          try simp only [Act.put, List.setIfInBounds_toArray, List.set_cons_zero, List.set_cons_succ]
          refine wpAnyH_ready (rs := [6]) (by kernel_rfl) (by simp) ?_
          refine AllReadyH.cons (o := { dst := none, op := Op.store 37 (Operand.tmp 7) (Operand.tmp 28), type := 0, pos := "law.go:31", after := #[{ on := 4, ground := Ground.data }, { on := 1, ground := Ground.data }, { on := 3, ground := Ground.chain }, { on := 0, ground := Ground.phase }, { on := 1, ground := Ground.phase }, { on := 2, ground := Ground.textOnly Departure.lateStores }, { on := 3, ground := Ground.textOnly Departure.lateStoresUnsure }, { on := 4, ground := Ground.phase }, { on := 5, ground := Ground.phase }], guard := none }) rfl (fun K hK => ?_) AllReadyH.nil
          have HZ : Hid (w1.heap.size ≤ (w1.heap.size) ∧ w1.heap.size ≤ (v1.heap.size) ∧ (w1.heap.size) ≠ (v1.heap.size) ∧ (v1.heap.size) ≠ (w1.heap.size)) := Lib.hid (by have s1 := HS1.out; have s2 := HS2.out; (try simp at s1); (try simp at s2); (refine ⟨?_, ?_, ?_, ?_⟩) <;> (first | omega | (simp; done) | (simp; omega)))
          have kb := H.out.2 _ (List.mem_cons_self ..)
          have b0 := kb.cell 0
          have b1 := kb.cell 1
          have b2 := kb.cell 2
          have bf := fun o => kb.frozen o
          have ka := H.out.2 _ (List.mem_cons_of_mem _ (List.mem_cons_self ..))
          have a0 := ka.cell 0
          have a1 := ka.cell 1
          have a2 := ka.cell 2
          have a3 := ka.cell 3
          have a4 := ka.cell 4
          have af := fun o => ka.frozen o
          go_simp
          go_wp2_with fail
          refine hK.out _ _ ?_ (fun hHeld => ?_)
          · refine HC1.out _ ?_; (repeat' first | (with_reducible exact DV) | (with_reducible exact Below.refl _ _) | (with_reducible refine Below.drew ?_) | (with_reducible refine Below.setCell ?_ ?_ _) | (with_reducible refine Below.alloc ?_ ?_ _) | exact DV.size | exact HZ.out.1 | exact HZ.out.2.1 | exact Nat.le_refl _ | (simp; done) | (have := DV.size; simp; omega) | (simp; omega))
          clear hK K
          try simp only [Act.put, List.setIfInBounds_toArray, List.set_cons_zero, List.set_cons_succ]
          clear ka kb af bf a0 a1 a2 a3 a4 b0 b1 b2
          have H := Lib.hid ((H.out.swap8).five8 HZ.out.1 (ne8 HZ.out.2.2.1) (.int .u8 (fk : Int)) (.string fK) (.string fT) (.int .i64 fl) (.int .i64 fm))
          refine wpAnyH_ready (rs := [7]) (by kernel_rfl) (by simp) ?_
          refine AllReadyH.cons (o := { dst := none, op := Op.store 34 (Operand.tmp 8) (Operand.tmp 30), type := 0, pos := "law.go:31", after := #[{ on := 5, ground := Ground.data }, { on := 3, ground := Ground.data }, { on := 6, ground := Ground.chain }, { on := 0, ground := Ground.phase }, { on := 1, ground := Ground.phase }, { on := 2, ground := Ground.phase }, { on := 3, ground := Ground.phase }, { on := 4, ground := Ground.phase }, { on := 5, ground := Ground.phase }, { on := 6, ground := Ground.phase }], guard := none }) rfl (fun K hK => ?_) AllReadyH.nil
          have ka := H.out.2 _ (List.mem_cons_self ..)
          have a0 := ka.cell 0
          have a1 := ka.cell 1
          have a2 := ka.cell 2
          have a3 := ka.cell 3
          have a4 := ka.cell 4
          have af := fun o => ka.frozen o
          have kb := H.out.2 _ (List.mem_cons_of_mem _ (List.mem_cons_self ..))
          have b0 := kb.cell 0
          have b1 := kb.cell 1
          have b2 := kb.cell 2
          have bf := fun o => kb.frozen o
          go_simp
          go_wp2_with fail
          refine hK.out _ _ ?_ (fun hHeld => ?_)
          · refine HC1.out _ ?_; (repeat' first | (with_reducible exact DV) | (with_reducible exact Below.refl _ _) | (with_reducible refine Below.drew ?_) | (with_reducible refine Below.setCell ?_ ?_ _) | (with_reducible refine Below.alloc ?_ ?_ _) | exact DV.size | exact HZ.out.1 | exact HZ.out.2.1 | exact Nat.le_refl _ | (simp; done) | (have := DV.size; simp; omega) | (simp; omega))
          clear hK K
          try simp only [Act.put, List.setIfInBounds_toArray, List.set_cons_zero, List.set_cons_succ]
          clear ka kb af bf a0 a1 a2 a3 a4 b0 b1 b2
          have H := Lib.hid ((H.out.swap8).three8 HZ.out.2.1 (ne8 HZ.out.2.2.2) (.string k) (.int .i64 s) (.int .i64 e))
          refine wpAnyH_done (by kernel_rfl) ?_ _
          go_wp2_with fail
          go_meet
          first
            | exact ⟨_, _, rfl, rfl, H.out⟩
            | exact ⟨_, _, rfl, rfl, H.out.swap8⟩
      · go_simp
        go_wp2_with fail
        refine hK.out _ _ ?_ (fun hHeld => ?_)
        · refine HC1.out _ ?_; (repeat' first | (with_reducible exact DV) | (with_reducible exact Below.refl _ _) | (with_reducible refine Below.drew ?_) | (with_reducible refine Below.setCell ?_ ?_ _) | (with_reducible refine Below.alloc ?_ ?_ _) | exact DV.size | exact HZ.out.1 | exact HZ.out.2.1 | exact Nat.le_refl _ | (simp; done) | (have := DV.size; simp; omega) | (simp; omega))
        clear hK K
        try simp only [Act.put, List.setIfInBounds_toArray, List.set_cons_zero, List.set_cons_succ]
        have H := Lib.hid (H.out.new #[.string ⟨#[]⟩, .int .i64 0, .int .i64 0] 34)
        rw [show (w1.alloc (.cells #[.int .u8 0, .string ⟨#[]⟩, .string ⟨#[]⟩, .int .i64 0, .int .i64 0] 37)).heap.size = w1.heap.size + 1 by simp] at H
        refine wpAnyH_ready (rs := [1]) (by kernel_rfl) (by simp) ?_
        refine AllReadyH.cons (o := { dst := some 28, op := Op.call { callee := Callee.value (Operand.func 13), args := #[Operand.tmp 27], argTypes := #[23] }, type := 37, pos := "law.go:31", after := #[{ on := 0, ground := Ground.data }], guard := none }) rfl (fun K hK => ?_) AllReadyH.nil
        go_simp
        go_at_call 13
        refine (lref_any (fk : Int) fK fT fl fm _).mono ?_
        rintro x v1 ⟨rfl, b1⟩
        have H := Lib.hid (H.out.step (below_next ((Below.refl ((w1.alloc (.cells #[.int .u8 0, .string ⟨#[]⟩, .string ⟨#[]⟩, .int .i64 0, .int .i64 0] 37)).alloc (.cells #[.string ⟨#[]⟩, .int .i64 0, .int .i64 0] 34)).heap.size ((w1.alloc (.cells #[.int .u8 0, .string ⟨#[]⟩, .string ⟨#[]⟩, .int .i64 0, .int .i64 0] 37)).alloc (.cells #[.string ⟨#[]⟩, .int .i64 0, .int .i64 0] 34))).drew) (show Below ((w1.alloc (.cells #[.int .u8 0, .string ⟨#[]⟩, .string ⟨#[]⟩, .int .i64 0, .int .i64 0] 37)).alloc (.cells #[.string ⟨#[]⟩, .int .i64 0, .int .i64 0] 34)).drew.heap.size ((w1.alloc (.cells #[.int .u8 0, .string ⟨#[]⟩, .string ⟨#[]⟩, .int .i64 0, .int .i64 0] 37)).alloc (.cells #[.string ⟨#[]⟩, .int .i64 0, .int .i64 0] 34)).drew v1 from b1)))
        have HS1 := Lib.hid (show ((w1.alloc (.cells #[.int .u8 0, .string ⟨#[]⟩, .string ⟨#[]⟩, .int .i64 0, .int .i64 0] 37)).alloc (.cells #[.string ⟨#[]⟩, .int .i64 0, .int .i64 0] 34)).heap.size ≤ v1.heap.size from b1.size)
        have DV := H.out.1
        clear b1
        go_wp2_with fail
        refine hK.out _ _ ?_ (fun hHeld => ?_)
        · refine HC1.out _ ?_; (repeat' first | (with_reducible exact DV) | (with_reducible exact Below.refl _ _) | (with_reducible refine Below.drew ?_) | (with_reducible refine Below.setCell ?_ ?_ _) | (with_reducible refine Below.alloc ?_ ?_ _) | exact DV.size | exact HZ.out.1 | exact HZ.out.2.1 | exact Nat.le_refl _ | (simp; done) | (have := DV.size; simp; omega) | (simp; omega))
        clear hK K
        try simp only [Act.put, List.setIfInBounds_toArray, List.set_cons_zero, List.set_cons_succ]
        refine wpAnyH_ready (rs := [3]) (by kernel_rfl) (by simp) ?_
        refine AllReadyH.cons (o := { dst := some 30, op := Op.call { callee := Callee.value (Operand.func 11), args := #[Operand.tmp 29], argTypes := #[33] }, type := 34, pos := "law.go:31", after := #[{ on := 2, ground := Ground.data }, { on := 1, ground := Ground.chain }], guard := none }) rfl (fun K hK => ?_) AllReadyH.nil
        go_simp
        go_at_call 11
        refine (lpane_any k s e _).mono ?_
        rintro x v2 ⟨rfl, b2⟩
        have H := Lib.hid (H.out.step b2)
        have HS2 := Lib.hid (show v1.heap.size ≤ v2.heap.size from b2.size)
        have DV := H.out.1
        have HV := H
        clear b2
        go_wp2_with fail
        refine hK.out _ _ ?_ (fun hHeld => ?_)
        · refine HC1.out _ ?_; (repeat' first | (with_reducible exact DV) | (with_reducible exact Below.refl _ _) | (with_reducible refine Below.drew ?_) | (with_reducible refine Below.setCell ?_ ?_ _) | (with_reducible refine Below.alloc ?_ ?_ _) | exact DV.size | exact HZ.out.1 | exact HZ.out.2.1 | exact Nat.le_refl _ | (simp; done) | (have := DV.size; simp; omega) | (simp; omega))
        clear hK K
        try simp only [Act.put, List.setIfInBounds_toArray, List.set_cons_zero, List.set_cons_succ]
        refine wpAnyH_ready (rs := [6]) (by kernel_rfl) (by simp) ?_
        refine AllReadyH.cons (o := { dst := none, op := Op.store 37 (Operand.tmp 7) (Operand.tmp 28), type := 0, pos := "law.go:31", after := #[{ on := 4, ground := Ground.data }, { on := 1, ground := Ground.data }, { on := 3, ground := Ground.chain }, { on := 0, ground := Ground.phase }, { on := 1, ground := Ground.phase }, { on := 2, ground := Ground.textOnly Departure.lateStores }, { on := 3, ground := Ground.textOnly Departure.lateStoresUnsure }, { on := 4, ground := Ground.phase }, { on := 5, ground := Ground.phase }], guard := none }) rfl (fun K hK => ?_) AllReadyH.nil
        have HZ : Hid (w1.heap.size ≤ (w1.heap.size) ∧ w1.heap.size ≤ (w1.heap.size + 1) ∧ (w1.heap.size) ≠ (w1.heap.size + 1) ∧ (w1.heap.size + 1) ≠ (w1.heap.size)) := Lib.hid (by have s1 := HS1.out; have s2 := HS2.out; (try simp at s1); (try simp at s2); (refine ⟨?_, ?_, ?_, ?_⟩) <;> (first | omega | (simp; done) | (simp; omega)))
        have kb := H.out.2 _ (List.mem_cons_self ..)
        have b0 := kb.cell 0
        have b1 := kb.cell 1
        have b2 := kb.cell 2
        have bf := fun o => kb.frozen o
        have ka := H.out.2 _ (List.mem_cons_of_mem _ (List.mem_cons_self ..))
        have a0 := ka.cell 0
        have a1 := ka.cell 1
        have a2 := ka.cell 2
        have a3 := ka.cell 3
        have a4 := ka.cell 4
        have af := fun o => ka.frozen o
        go_simp
        go_wp2_with fail
        refine hK.out _ _ ?_ (fun hHeld => ?_)
        · refine HC1.out _ ?_; (repeat' first | (with_reducible exact DV) | (with_reducible exact Below.refl _ _) | (with_reducible refine Below.drew ?_) | (with_reducible refine Below.setCell ?_ ?_ _) | (with_reducible refine Below.alloc ?_ ?_ _) | exact DV.size | exact HZ.out.1 | exact HZ.out.2.1 | exact Nat.le_refl _ | (simp; done) | (have := DV.size; simp; omega) | (simp; omega))
        clear hK K
        try simp only [Act.put, List.setIfInBounds_toArray, List.set_cons_zero, List.set_cons_succ]
        clear ka kb af bf a0 a1 a2 a3 a4 b0 b1 b2
        have H := Lib.hid ((H.out.swap8).five8 HZ.out.1 (ne8 HZ.out.2.2.1) (.int .u8 (fk : Int)) (.string fK) (.string fT) (.int .i64 fl) (.int .i64 fm))
        refine wpAnyH_ready (rs := [7]) (by kernel_rfl) (by simp) ?_
        refine AllReadyH.cons (o := { dst := none, op := Op.store 34 (Operand.tmp 8) (Operand.tmp 30), type := 0, pos := "law.go:31", after := #[{ on := 5, ground := Ground.data }, { on := 3, ground := Ground.data }, { on := 6, ground := Ground.chain }, { on := 0, ground := Ground.phase }, { on := 1, ground := Ground.phase }, { on := 2, ground := Ground.phase }, { on := 3, ground := Ground.phase }, { on := 4, ground := Ground.phase }, { on := 5, ground := Ground.phase }, { on := 6, ground := Ground.phase }], guard := none }) rfl (fun K hK => ?_) AllReadyH.nil
        have ka := H.out.2 _ (List.mem_cons_self ..)
        have a0 := ka.cell 0
        have a1 := ka.cell 1
        have a2 := ka.cell 2
        have a3 := ka.cell 3
        have a4 := ka.cell 4
        have af := fun o => ka.frozen o
        have kb := H.out.2 _ (List.mem_cons_of_mem _ (List.mem_cons_self ..))
        have b0 := kb.cell 0
        have b1 := kb.cell 1
        have b2 := kb.cell 2
        have bf := fun o => kb.frozen o
        go_simp
        go_wp2_with fail
        refine hK.out _ _ ?_ (fun hHeld => ?_)
        · refine HC1.out _ ?_; (repeat' first | (with_reducible exact DV) | (with_reducible exact Below.refl _ _) | (with_reducible refine Below.drew ?_) | (with_reducible refine Below.setCell ?_ ?_ _) | (with_reducible refine Below.alloc ?_ ?_ _) | exact DV.size | exact HZ.out.1 | exact HZ.out.2.1 | exact Nat.le_refl _ | (simp; done) | (have := DV.size; simp; omega) | (simp; omega))
        clear hK K
        try simp only [Act.put, List.setIfInBounds_toArray, List.set_cons_zero, List.set_cons_succ]
        clear ka kb af bf a0 a1 a2 a3 a4 b0 b1 b2
        have H := Lib.hid ((H.out.swap8).three8 HZ.out.2.1 (ne8 HZ.out.2.2.2) (.string k) (.int .i64 s) (.int .i64 e))
        refine wpAnyH_done (by kernel_rfl) ?_ _
        go_wp2_with fail
        go_meet
        first
          | exact ⟨_, _, rfl, rfl, H.out⟩
          | exact ⟨_, _, rfl, rfl, H.out.swap8⟩
    · go_simp
      go_wp2_with fail
      refine hK.out _ _ ?_ (fun hHeld => ?_)
      · refine HC1.out _ ?_; (repeat' first | (with_reducible exact DV) | (with_reducible exact Below.refl _ _) | (with_reducible refine Below.drew ?_) | (with_reducible refine Below.setCell ?_ ?_ _) | (with_reducible refine Below.alloc ?_ ?_ _) | exact DV.size | exact HZ.out.1 | exact HZ.out.2.1 | exact Nat.le_refl _ | (simp; done) | (have := DV.size; simp; omega) | (simp; omega))
      clear hK K
      try simp only [Act.put, List.setIfInBounds_toArray, List.set_cons_zero, List.set_cons_succ]
      have H := Lib.hid (H.out.new #[.string ⟨#[]⟩, .int .i64 0, .int .i64 0] 34)
      refine wpAnyH_ready (rs := [1, 4]) (by kernel_rfl) (by simp) ?_
      refine AllReadyH.cons (o := { dst := some 28, op := Op.call { callee := Callee.value (Operand.func 13), args := #[Operand.tmp 27], argTypes := #[23] }, type := 37, pos := "law.go:31", after := #[{ on := 0, ground := Ground.data }], guard := none }) rfl (fun K hK => ?_) (AllReadyH.cons (o := { dst := some 7, op := Op.alloc 37, type := 0, pos := "law.go:31", after := #[], guard := none }) rfl (fun K hK => ?_) AllReadyH.nil)
      · go_simp
        go_at_call 13
        refine (lref_any (fk : Int) fK fT fl fm _).mono ?_
        rintro x v1 ⟨rfl, b1⟩
        have H := Lib.hid (H.out.step (below_next ((Below.refl (w1.alloc (.cells #[.string ⟨#[]⟩, .int .i64 0, .int .i64 0] 34)).heap.size (w1.alloc (.cells #[.string ⟨#[]⟩, .int .i64 0, .int .i64 0] 34))).drew) (show Below (w1.alloc (.cells #[.string ⟨#[]⟩, .int .i64 0, .int .i64 0] 34)).drew.heap.size (w1.alloc (.cells #[.string ⟨#[]⟩, .int .i64 0, .int .i64 0] 34)).drew v1 from b1)))
        have HS1 := Lib.hid (show (w1.alloc (.cells #[.string ⟨#[]⟩, .int .i64 0, .int .i64 0] 34)).heap.size ≤ v1.heap.size from b1.size)
        have DV := H.out.1
        clear b1
        go_wp2_with fail
        refine hK.out _ _ ?_ (fun hHeld => ?_)
        · refine HC1.out _ ?_; (repeat' first | (with_reducible exact DV) | (with_reducible exact Below.refl _ _) | (with_reducible refine Below.drew ?_) | (with_reducible refine Below.setCell ?_ ?_ _) | (with_reducible refine Below.alloc ?_ ?_ _) | exact DV.size | exact HZ.out.1 | exact HZ.out.2.1 | exact Nat.le_refl _ | (simp; done) | (have := DV.size; simp; omega) | (simp; omega))
        clear hK K
        try simp only [Act.put, List.setIfInBounds_toArray, List.set_cons_zero, List.set_cons_succ]
        refine wpAnyH_ready (rs := [3, 4]) (by kernel_rfl) (by simp) ?_
        refine AllReadyH.cons (o := { dst := some 30, op := Op.call { callee := Callee.value (Operand.func 11), args := #[Operand.tmp 29], argTypes := #[33] }, type := 34, pos := "law.go:31", after := #[{ on := 2, ground := Ground.data }, { on := 1, ground := Ground.chain }], guard := none }) rfl (fun K hK => ?_) (AllReadyH.cons (o := { dst := some 7, op := Op.alloc 37, type := 0, pos := "law.go:31", after := #[], guard := none }) rfl (fun K hK => ?_) AllReadyH.nil)
        · go_simp
          go_at_call 11
          refine (lpane_any k s e _).mono ?_
          rintro x v2 ⟨rfl, b2⟩
          have H := Lib.hid (H.out.step b2)
          have HS2 := Lib.hid (show v1.heap.size ≤ v2.heap.size from b2.size)
          have DV := H.out.1
          have HV := H
          clear b2
          go_wp2_with fail
          refine hK.out _ _ ?_ (fun hHeld => ?_)
          · refine HC1.out _ ?_; (repeat' first | (with_reducible exact DV) | (with_reducible exact Below.refl _ _) | (with_reducible refine Below.drew ?_) | (with_reducible refine Below.setCell ?_ ?_ _) | (with_reducible refine Below.alloc ?_ ?_ _) | exact DV.size | exact HZ.out.1 | exact HZ.out.2.1 | exact Nat.le_refl _ | (simp; done) | (have := DV.size; simp; omega) | (simp; omega))
          clear hK K
          try simp only [Act.put, List.setIfInBounds_toArray, List.set_cons_zero, List.set_cons_succ]
          refine wpAnyH_ready (rs := [4]) (by kernel_rfl) (by simp) ?_
          refine AllReadyH.cons (o := { dst := some 7, op := Op.alloc 37, type := 0, pos := "law.go:31", after := #[], guard := none }) rfl (fun K hK => ?_) AllReadyH.nil
          go_simp
          go_wp2_with fail
          refine hK.out _ _ ?_ (fun hHeld => ?_)
          · refine HC1.out _ ?_; (repeat' first | (with_reducible exact DV) | (with_reducible exact Below.refl _ _) | (with_reducible refine Below.drew ?_) | (with_reducible refine Below.setCell ?_ ?_ _) | (with_reducible refine Below.alloc ?_ ?_ _) | exact DV.size | exact HZ.out.1 | exact HZ.out.2.1 | exact Nat.le_refl _ | (simp; done) | (have := DV.size; simp; omega) | (simp; omega))
          clear hK K
          try simp only [Act.put, List.setIfInBounds_toArray, List.set_cons_zero, List.set_cons_succ]
          have H := Lib.hid (H.out.new #[.int .u8 0, .string ⟨#[]⟩, .string ⟨#[]⟩, .int .i64 0, .int .i64 0] 37)
          refine wpAnyH_ready (rs := [6]) (by kernel_rfl) (by simp) ?_
          refine AllReadyH.cons (o := { dst := none, op := Op.store 37 (Operand.tmp 7) (Operand.tmp 28), type := 0, pos := "law.go:31", after := #[{ on := 4, ground := Ground.data }, { on := 1, ground := Ground.data }, { on := 3, ground := Ground.chain }, { on := 0, ground := Ground.phase }, { on := 1, ground := Ground.phase }, { on := 2, ground := Ground.textOnly Departure.lateStores }, { on := 3, ground := Ground.textOnly Departure.lateStoresUnsure }, { on := 4, ground := Ground.phase }, { on := 5, ground := Ground.phase }], guard := none }) rfl (fun K hK => ?_) AllReadyH.nil
          have HZ : Hid (w1.heap.size ≤ (v2.heap.size) ∧ w1.heap.size ≤ (w1.heap.size) ∧ (v2.heap.size) ≠ (w1.heap.size) ∧ (w1.heap.size) ≠ (v2.heap.size)) := Lib.hid (by have s1 := HS1.out; have s2 := HS2.out; (try simp at s1); (try simp at s2); (refine ⟨?_, ?_, ?_, ?_⟩) <;> (first | omega | (simp; done) | (simp; omega)))
          have ka := H.out.2 _ (List.mem_cons_self ..)
          have a0 := ka.cell 0
          have a1 := ka.cell 1
          have a2 := ka.cell 2
          have a3 := ka.cell 3
          have a4 := ka.cell 4
          have af := fun o => ka.frozen o
          have kb := H.out.2 _ (List.mem_cons_of_mem _ (List.mem_cons_self ..))
          have b0 := kb.cell 0
          have b1 := kb.cell 1
          have b2 := kb.cell 2
          have bf := fun o => kb.frozen o
          go_simp
          go_wp2_with fail
          refine hK.out _ _ ?_ (fun hHeld => ?_)
          · refine HC1.out _ ?_; (repeat' first | (with_reducible exact DV) | (with_reducible exact Below.refl _ _) | (with_reducible refine Below.drew ?_) | (with_reducible refine Below.setCell ?_ ?_ _) | (with_reducible refine Below.alloc ?_ ?_ _) | exact DV.size | exact HZ.out.1 | exact HZ.out.2.1 | exact Nat.le_refl _ | (simp; done) | (have := DV.size; simp; omega) | (simp; omega))
          clear hK K
          try simp only [Act.put, List.setIfInBounds_toArray, List.set_cons_zero, List.set_cons_succ]
          clear ka kb af bf a0 a1 a2 a3 a4 b0 b1 b2
          have H := Lib.hid (HV.out.new #[.int .u8 (fk : Int), .string fK, .string fT, .int .i64 fl, .int .i64 fm] 37)
          refine wpAnyH_ready (rs := [7]) (by kernel_rfl) (by simp) ?_
          refine AllReadyH.cons (o := { dst := none, op := Op.store 34 (Operand.tmp 8) (Operand.tmp 30), type := 0, pos := "law.go:31", after := #[{ on := 5, ground := Ground.data }, { on := 3, ground := Ground.data }, { on := 6, ground := Ground.chain }, { on := 0, ground := Ground.phase }, { on := 1, ground := Ground.phase }, { on := 2, ground := Ground.phase }, { on := 3, ground := Ground.phase }, { on := 4, ground := Ground.phase }, { on := 5, ground := Ground.phase }, { on := 6, ground := Ground.phase }], guard := none }) rfl (fun K hK => ?_) AllReadyH.nil
          have ka := H.out.2 _ (List.mem_cons_self ..)
          have a0 := ka.cell 0
          have a1 := ka.cell 1
          have a2 := ka.cell 2
          have a3 := ka.cell 3
          have a4 := ka.cell 4
          have af := fun o => ka.frozen o
          have kb := H.out.2 _ (List.mem_cons_of_mem _ (List.mem_cons_self ..))
          have b0 := kb.cell 0
          have b1 := kb.cell 1
          have b2 := kb.cell 2
          have bf := fun o => kb.frozen o
          go_simp
          go_wp2_with fail
          refine hK.out _ _ ?_ (fun hHeld => ?_)
          · refine HC1.out _ ?_; (repeat' first | (with_reducible exact DV) | (with_reducible exact Below.refl _ _) | (with_reducible refine Below.drew ?_) | (with_reducible refine Below.setCell ?_ ?_ _) | (with_reducible refine Below.alloc ?_ ?_ _) | exact DV.size | exact HZ.out.1 | exact HZ.out.2.1 | exact Nat.le_refl _ | (simp; done) | (have := DV.size; simp; omega) | (simp; omega))
          clear hK K
          try simp only [Act.put, List.setIfInBounds_toArray, List.set_cons_zero, List.set_cons_succ]
          clear ka kb af bf a0 a1 a2 a3 a4 b0 b1 b2
          have H := Lib.hid ((H.out.swap8).three8 HZ.out.2.1 (ne8 HZ.out.2.2.2) (.string k) (.int .i64 s) (.int .i64 e))
          refine wpAnyH_done (by kernel_rfl) ?_ _
          go_wp2_with fail
          go_meet
          first
            | exact ⟨_, _, rfl, rfl, H.out⟩
            | exact ⟨_, _, rfl, rfl, H.out.swap8⟩
        · go_simp
          go_wp2_with fail
          refine hK.out _ _ ?_ (fun hHeld => ?_)
          · refine HC1.out _ ?_; (repeat' first | (with_reducible exact DV) | (with_reducible exact Below.refl _ _) | (with_reducible refine Below.drew ?_) | (with_reducible refine Below.setCell ?_ ?_ _) | (with_reducible refine Below.alloc ?_ ?_ _) | exact DV.size | exact HZ.out.1 | exact HZ.out.2.1 | exact Nat.le_refl _ | (simp; done) | (have := DV.size; simp; omega) | (simp; omega))
          clear hK K
          try simp only [Act.put, List.setIfInBounds_toArray, List.set_cons_zero, List.set_cons_succ]
          have H := Lib.hid (H.out.new #[.int .u8 0, .string ⟨#[]⟩, .string ⟨#[]⟩, .int .i64 0, .int .i64 0] 37)
          refine wpAnyH_ready (rs := [3]) (by kernel_rfl) (by simp) ?_
          refine AllReadyH.cons (o := { dst := some 30, op := Op.call { callee := Callee.value (Operand.func 11), args := #[Operand.tmp 29], argTypes := #[33] }, type := 34, pos := "law.go:31", after := #[{ on := 2, ground := Ground.data }, { on := 1, ground := Ground.chain }], guard := none }) rfl (fun K hK => ?_) AllReadyH.nil
          go_simp
          go_at_call 11
          refine (lpane_any k s e _).mono ?_
          rintro x v2 ⟨rfl, b2⟩
          have H := Lib.hid (H.out.step b2)
          have HS2 := Lib.hid (show (v1.alloc (.cells #[.int .u8 0, .string ⟨#[]⟩, .string ⟨#[]⟩, .int .i64 0, .int .i64 0] 37)).heap.size ≤ v2.heap.size from b2.size)
          have DV := H.out.1
          have HV := H
          clear b2
          go_wp2_with fail
          refine hK.out _ _ ?_ (fun hHeld => ?_)
          · refine HC1.out _ ?_; (repeat' first | (with_reducible exact DV) | (with_reducible exact Below.refl _ _) | (with_reducible refine Below.drew ?_) | (with_reducible refine Below.setCell ?_ ?_ _) | (with_reducible refine Below.alloc ?_ ?_ _) | exact DV.size | exact HZ.out.1 | exact HZ.out.2.1 | exact Nat.le_refl _ | (simp; done) | (have := DV.size; simp; omega) | (simp; omega))
          clear hK K
          try simp only [Act.put, List.setIfInBounds_toArray, List.set_cons_zero, List.set_cons_succ]
          refine wpAnyH_ready (rs := [6]) (by kernel_rfl) (by simp) ?_
          refine AllReadyH.cons (o := { dst := none, op := Op.store 37 (Operand.tmp 7) (Operand.tmp 28), type := 0, pos := "law.go:31", after := #[{ on := 4, ground := Ground.data }, { on := 1, ground := Ground.data }, { on := 3, ground := Ground.chain }, { on := 0, ground := Ground.phase }, { on := 1, ground := Ground.phase }, { on := 2, ground := Ground.textOnly Departure.lateStores }, { on := 3, ground := Ground.textOnly Departure.lateStoresUnsure }, { on := 4, ground := Ground.phase }, { on := 5, ground := Ground.phase }], guard := none }) rfl (fun K hK => ?_) AllReadyH.nil
          have HZ : Hid (w1.heap.size ≤ (v1.heap.size) ∧ w1.heap.size ≤ (w1.heap.size) ∧ (v1.heap.size) ≠ (w1.heap.size) ∧ (w1.heap.size) ≠ (v1.heap.size)) := Lib.hid (by have s1 := HS1.out; have s2 := HS2.out; (try simp at s1); (try simp at s2); (refine ⟨?_, ?_, ?_, ?_⟩) <;> (first | omega | (simp; done) | (simp; omega)))
          have ka := H.out.2 _ (List.mem_cons_self ..)
          have a0 := ka.cell 0
          have a1 := ka.cell 1
          have a2 := ka.cell 2
          have a3 := ka.cell 3
          have a4 := ka.cell 4
          have af := fun o => ka.frozen o
          have kb := H.out.2 _ (List.mem_cons_of_mem _ (List.mem_cons_self ..))
          have b0 := kb.cell 0
          have b1 := kb.cell 1
          have b2 := kb.cell 2
          have bf := fun o => kb.frozen o
          go_simp
          go_wp2_with fail
          refine hK.out _ _ ?_ (fun hHeld => ?_)
          · refine HC1.out _ ?_; (repeat' first | (with_reducible exact DV) | (with_reducible exact Below.refl _ _) | (with_reducible refine Below.drew ?_) | (with_reducible refine Below.setCell ?_ ?_ _) | (with_reducible refine Below.alloc ?_ ?_ _) | exact DV.size | exact HZ.out.1 | exact HZ.out.2.1 | exact Nat.le_refl _ | (simp; done) | (have := DV.size; simp; omega) | (simp; omega))
          clear hK K
          try simp only [Act.put, List.setIfInBounds_toArray, List.set_cons_zero, List.set_cons_succ]
          clear ka kb af bf a0 a1 a2 a3 a4 b0 b1 b2
          have H := Lib.hid ((H.out).five8 HZ.out.1 (ne8 HZ.out.2.2.1) (.int .u8 (fk : Int)) (.string fK) (.string fT) (.int .i64 fl) (.int .i64 fm))
          refine wpAnyH_ready (rs := [7]) (by kernel_rfl) (by simp) ?_
          refine AllReadyH.cons (o := { dst := none, op := Op.store 34 (Operand.tmp 8) (Operand.tmp 30), type := 0, pos := "law.go:31", after := #[{ on := 5, ground := Ground.data }, { on := 3, ground := Ground.data }, { on := 6, ground := Ground.chain }, { on := 0, ground := Ground.phase }, { on := 1, ground := Ground.phase }, { on := 2, ground := Ground.phase }, { on := 3, ground := Ground.phase }, { on := 4, ground := Ground.phase }, { on := 5, ground := Ground.phase }, { on := 6, ground := Ground.phase }], guard := none }) rfl (fun K hK => ?_) AllReadyH.nil
          have ka := H.out.2 _ (List.mem_cons_self ..)
          have a0 := ka.cell 0
          have a1 := ka.cell 1
          have a2 := ka.cell 2
          have a3 := ka.cell 3
          have a4 := ka.cell 4
          have af := fun o => ka.frozen o
          have kb := H.out.2 _ (List.mem_cons_of_mem _ (List.mem_cons_self ..))
          have b0 := kb.cell 0
          have b1 := kb.cell 1
          have b2 := kb.cell 2
          have bf := fun o => kb.frozen o
          go_simp
          go_wp2_with fail
          refine hK.out _ _ ?_ (fun hHeld => ?_)
          · refine HC1.out _ ?_; (repeat' first | (with_reducible exact DV) | (with_reducible exact Below.refl _ _) | (with_reducible refine Below.drew ?_) | (with_reducible refine Below.setCell ?_ ?_ _) | (with_reducible refine Below.alloc ?_ ?_ _) | exact DV.size | exact HZ.out.1 | exact HZ.out.2.1 | exact Nat.le_refl _ | (simp; done) | (have := DV.size; simp; omega) | (simp; omega))
          clear hK K
          try simp only [Act.put, List.setIfInBounds_toArray, List.set_cons_zero, List.set_cons_succ]
          clear ka kb af bf a0 a1 a2 a3 a4 b0 b1 b2
          have H := Lib.hid ((H.out.swap8).three8 HZ.out.2.1 (ne8 HZ.out.2.2.2) (.string k) (.int .i64 s) (.int .i64 e))
          refine wpAnyH_done (by kernel_rfl) ?_ _
          go_wp2_with fail
          go_meet
          first
            | exact ⟨_, _, rfl, rfl, H.out⟩
            | exact ⟨_, _, rfl, rfl, H.out.swap8⟩
      · go_simp
        go_wp2_with fail
        refine hK.out _ _ ?_ (fun hHeld => ?_)
        · refine HC1.out _ ?_; (repeat' first | (with_reducible exact DV) | (with_reducible exact Below.refl _ _) | (with_reducible refine Below.drew ?_) | (with_reducible refine Below.setCell ?_ ?_ _) | (with_reducible refine Below.alloc ?_ ?_ _) | exact DV.size | exact HZ.out.1 | exact HZ.out.2.1 | exact Nat.le_refl _ | (simp; done) | (have := DV.size; simp; omega) | (simp; omega))
        clear hK K
        try simp only [Act.put, List.setIfInBounds_toArray, List.set_cons_zero, List.set_cons_succ]
        have H := Lib.hid (H.out.new #[.int .u8 0, .string ⟨#[]⟩, .string ⟨#[]⟩, .int .i64 0, .int .i64 0] 37)
        rw [show (w1.alloc (.cells #[.string ⟨#[]⟩, .int .i64 0, .int .i64 0] 34)).heap.size = w1.heap.size + 1 by simp] at H
        refine wpAnyH_ready (rs := [1]) (by kernel_rfl) (by simp) ?_
        refine AllReadyH.cons (o := { dst := some 28, op := Op.call { callee := Callee.value (Operand.func 13), args := #[Operand.tmp 27], argTypes := #[23] }, type := 37, pos := "law.go:31", after := #[{ on := 0, ground := Ground.data }], guard := none }) rfl (fun K hK => ?_) AllReadyH.nil
        go_simp
        go_at_call 13
        refine (lref_any (fk : Int) fK fT fl fm _).mono ?_
        rintro x v1 ⟨rfl, b1⟩
        have H := Lib.hid (H.out.step (below_next ((Below.refl ((w1.alloc (.cells #[.string ⟨#[]⟩, .int .i64 0, .int .i64 0] 34)).alloc (.cells #[.int .u8 0, .string ⟨#[]⟩, .string ⟨#[]⟩, .int .i64 0, .int .i64 0] 37)).heap.size ((w1.alloc (.cells #[.string ⟨#[]⟩, .int .i64 0, .int .i64 0] 34)).alloc (.cells #[.int .u8 0, .string ⟨#[]⟩, .string ⟨#[]⟩, .int .i64 0, .int .i64 0] 37))).drew) (show Below ((w1.alloc (.cells #[.string ⟨#[]⟩, .int .i64 0, .int .i64 0] 34)).alloc (.cells #[.int .u8 0, .string ⟨#[]⟩, .string ⟨#[]⟩, .int .i64 0, .int .i64 0] 37)).drew.heap.size ((w1.alloc (.cells #[.string ⟨#[]⟩, .int .i64 0, .int .i64 0] 34)).alloc (.cells #[.int .u8 0, .string ⟨#[]⟩, .string ⟨#[]⟩, .int .i64 0, .int .i64 0] 37)).drew v1 from b1)))
        have HS1 := Lib.hid (show ((w1.alloc (.cells #[.string ⟨#[]⟩, .int .i64 0, .int .i64 0] 34)).alloc (.cells #[.int .u8 0, .string ⟨#[]⟩, .string ⟨#[]⟩, .int .i64 0, .int .i64 0] 37)).heap.size ≤ v1.heap.size from b1.size)
        have DV := H.out.1
        clear b1
        go_wp2_with fail
        refine hK.out _ _ ?_ (fun hHeld => ?_)
        · refine HC1.out _ ?_; (repeat' first | (with_reducible exact DV) | (with_reducible exact Below.refl _ _) | (with_reducible refine Below.drew ?_) | (with_reducible refine Below.setCell ?_ ?_ _) | (with_reducible refine Below.alloc ?_ ?_ _) | exact DV.size | exact HZ.out.1 | exact HZ.out.2.1 | exact Nat.le_refl _ | (simp; done) | (have := DV.size; simp; omega) | (simp; omega))
        clear hK K
        try simp only [Act.put, List.setIfInBounds_toArray, List.set_cons_zero, List.set_cons_succ]
        refine wpAnyH_ready (rs := [3]) (by kernel_rfl) (by simp) ?_
        refine AllReadyH.cons (o := { dst := some 30, op := Op.call { callee := Callee.value (Operand.func 11), args := #[Operand.tmp 29], argTypes := #[33] }, type := 34, pos := "law.go:31", after := #[{ on := 2, ground := Ground.data }, { on := 1, ground := Ground.chain }], guard := none }) rfl (fun K hK => ?_) AllReadyH.nil
        go_simp
        go_at_call 11
        refine (lpane_any k s e _).mono ?_
        rintro x v2 ⟨rfl, b2⟩
        have H := Lib.hid (H.out.step b2)
        have HS2 := Lib.hid (show v1.heap.size ≤ v2.heap.size from b2.size)
        have DV := H.out.1
        have HV := H
        clear b2
        go_wp2_with fail
        refine hK.out _ _ ?_ (fun hHeld => ?_)
        · refine HC1.out _ ?_; (repeat' first | (with_reducible exact DV) | (with_reducible exact Below.refl _ _) | (with_reducible refine Below.drew ?_) | (with_reducible refine Below.setCell ?_ ?_ _) | (with_reducible refine Below.alloc ?_ ?_ _) | exact DV.size | exact HZ.out.1 | exact HZ.out.2.1 | exact Nat.le_refl _ | (simp; done) | (have := DV.size; simp; omega) | (simp; omega))
        clear hK K
        try simp only [Act.put, List.setIfInBounds_toArray, List.set_cons_zero, List.set_cons_succ]
        refine wpAnyH_ready (rs := [6]) (by kernel_rfl) (by simp) ?_
        refine AllReadyH.cons (o := { dst := none, op := Op.store 37 (Operand.tmp 7) (Operand.tmp 28), type := 0, pos := "law.go:31", after := #[{ on := 4, ground := Ground.data }, { on := 1, ground := Ground.data }, { on := 3, ground := Ground.chain }, { on := 0, ground := Ground.phase }, { on := 1, ground := Ground.phase }, { on := 2, ground := Ground.textOnly Departure.lateStores }, { on := 3, ground := Ground.textOnly Departure.lateStoresUnsure }, { on := 4, ground := Ground.phase }, { on := 5, ground := Ground.phase }], guard := none }) rfl (fun K hK => ?_) AllReadyH.nil
        have HZ : Hid (w1.heap.size ≤ (w1.heap.size + 1) ∧ w1.heap.size ≤ (w1.heap.size) ∧ (w1.heap.size + 1) ≠ (w1.heap.size) ∧ (w1.heap.size) ≠ (w1.heap.size + 1)) := Lib.hid (by have s1 := HS1.out; have s2 := HS2.out; (try simp at s1); (try simp at s2); (refine ⟨?_, ?_, ?_, ?_⟩) <;> (first | omega | (simp; done) | (simp; omega)))
        have ka := H.out.2 _ (List.mem_cons_self ..)
        have a0 := ka.cell 0
        have a1 := ka.cell 1
        have a2 := ka.cell 2
        have a3 := ka.cell 3
        have a4 := ka.cell 4
        have af := fun o => ka.frozen o
        have kb := H.out.2 _ (List.mem_cons_of_mem _ (List.mem_cons_self ..))
        have b0 := kb.cell 0
        have b1 := kb.cell 1
        have b2 := kb.cell 2
        have bf := fun o => kb.frozen o
        go_simp
        go_wp2_with fail
        refine hK.out _ _ ?_ (fun hHeld => ?_)
        · refine HC1.out _ ?_; (repeat' first | (with_reducible exact DV) | (with_reducible exact Below.refl _ _) | (with_reducible refine Below.drew ?_) | (with_reducible refine Below.setCell ?_ ?_ _) | (with_reducible refine Below.alloc ?_ ?_ _) | exact DV.size | exact HZ.out.1 | exact HZ.out.2.1 | exact Nat.le_refl _ | (simp; done) | (have := DV.size; simp; omega) | (simp; omega))
        clear hK K
        try simp only [Act.put, List.setIfInBounds_toArray, List.set_cons_zero, List.set_cons_succ]
        clear ka kb af bf a0 a1 a2 a3 a4 b0 b1 b2
        have H := Lib.hid ((H.out).five8 HZ.out.1 (ne8 HZ.out.2.2.1) (.int .u8 (fk : Int)) (.string fK) (.string fT) (.int .i64 fl) (.int .i64 fm))
        refine wpAnyH_ready (rs := [7]) (by kernel_rfl) (by simp) ?_
        refine AllReadyH.cons (o := { dst := none, op := Op.store 34 (Operand.tmp 8) (Operand.tmp 30), type := 0, pos := "law.go:31", after := #[{ on := 5, ground := Ground.data }, { on := 3, ground := Ground.data }, { on := 6, ground := Ground.chain }, { on := 0, ground := Ground.phase }, { on := 1, ground := Ground.phase }, { on := 2, ground := Ground.phase }, { on := 3, ground := Ground.phase }, { on := 4, ground := Ground.phase }, { on := 5, ground := Ground.phase }, { on := 6, ground := Ground.phase }], guard := none }) rfl (fun K hK => ?_) AllReadyH.nil
        have ka := H.out.2 _ (List.mem_cons_self ..)
        have a0 := ka.cell 0
        have a1 := ka.cell 1
        have a2 := ka.cell 2
        have a3 := ka.cell 3
        have a4 := ka.cell 4
        have af := fun o => ka.frozen o
        have kb := H.out.2 _ (List.mem_cons_of_mem _ (List.mem_cons_self ..))
        have b0 := kb.cell 0
        have b1 := kb.cell 1
        have b2 := kb.cell 2
        have bf := fun o => kb.frozen o
        go_simp
        go_wp2_with fail
        refine hK.out _ _ ?_ (fun hHeld => ?_)
        · refine HC1.out _ ?_; (repeat' first | (with_reducible exact DV) | (with_reducible exact Below.refl _ _) | (with_reducible refine Below.drew ?_) | (with_reducible refine Below.setCell ?_ ?_ _) | (with_reducible refine Below.alloc ?_ ?_ _) | exact DV.size | exact HZ.out.1 | exact HZ.out.2.1 | exact Nat.le_refl _ | (simp; done) | (have := DV.size; simp; omega) | (simp; omega))
        clear hK K
        try simp only [Act.put, List.setIfInBounds_toArray, List.set_cons_zero, List.set_cons_succ]
        clear ka kb af bf a0 a1 a2 a3 a4 b0 b1 b2
        have H := Lib.hid ((H.out.swap8).three8 HZ.out.2.1 (ne8 HZ.out.2.2.2) (.string k) (.int .i64 s) (.int .i64 e))
        refine wpAnyH_done (by kernel_rfl) ?_ _
        go_wp2_with fail
        go_meet
        first
          | exact ⟨_, _, rfl, rfl, H.out⟩
          | exact ⟨_, _, rfl, rfl, H.out.swap8⟩
  case rest =>
  obtain ⟨g1, g2, rfl, rfl, hh⟩ := hcut
  have HG := Lib.hid hh
  have HD : Hid (∀ W, Below wc.heap.size wc W → (fun W => ((W.cell? ⟨w.heap.size, 0, none⟩ = some (.int .u8 (fk : Int)) ∧ W.cell? ⟨w.heap.size, 1, none⟩ = some (.string fK) ∧ W.cell? ⟨w.heap.size, 2, none⟩ = some (.string fT) ∧ W.cell? ⟨w.heap.size, 3, none⟩ = some (.int .i64 fl) ∧ W.cell? ⟨w.heap.size, 4, none⟩ = some (.int .i64 fm)) ∧ W.cell? ⟨w.heap.size + 1, 0, none⟩ = some (.string k) ∧ W.cell? ⟨w.heap.size + 1, 1, none⟩ = some (.int .i64 s) ∧ W.cell? ⟨w.heap.size + 1, 2, none⟩ = some (.int .i64 e)) ∧ (W.cell? ⟨g1, 0, none⟩ = some (.int .u8 (fk : Int)) ∧ W.cell? ⟨g1, 1, none⟩ = some (.string fK) ∧ W.cell? ⟨g1, 2, none⟩ = some (.string fT) ∧ W.cell? ⟨g1, 3, none⟩ = some (.int .i64 fl) ∧ W.cell? ⟨g1, 4, none⟩ = some (.int .i64 fm)) ∧ W.cell? ⟨g2, 0, none⟩ = some (.string k) ∧ W.cell? ⟨g2, 1, none⟩ = some (.int .i64 s) ∧ W.cell? ⟨g2, 2, none⟩ = some (.int .i64 e)) W) := Lib.hid fun W hW => by
    have h := (HG.out.step hW).2
    have k1 := h _ (List.mem_cons_self ..)
    have k2 := h _ (List.mem_cons_of_mem _ (List.mem_cons_self ..))
    exact ⟨HC1.out _ (below_next HG.out.1 hW), ⟨k1.cell 0, k1.cell 1, k1.cell 2, k1.cell 3, k1.cell 4⟩, k2.cell 0, k2.cell 1, k2.cell 2⟩
  have hpo : panOk (Pn.mk k s e) := ⟨Nat.le_trans HSZ.out.2.2 (by omega), HFK.out.2.1, HFK.out.2.2⟩
  have HPO := Lib.hid hpo
  have HBO := Lib.hid (fun W => bounds_any (Fl.mk fk fK fT fl fm) W HFK.out.1 (Nat.le_trans HSZ.out.1 (by omega)) (Nat.le_trans HSZ.out.2.1 (by omega)))
  have HBR := Lib.hid (fun W => refBounds_any (Fl.mk fk fK fT fl fm) W HFK.out.1 (Nat.le_trans HSZ.out.1 (by omega)) (Nat.le_trans HSZ.out.2.1 (by omega)))
  have hrs : row0.size ≤ 1000000 := by have := HR2.out; omega
  have HPP := Lib.hid (fun W => pane_any fk fK fT fl fm row0 W hrs)
  have HPR := Lib.hid (fun W => refPane_any fk fK fT fl fm row0 W hrs)
  have HA1 := Lib.hid (fun W => right_any (Fl.mk fk fK fT fl fm) W)
  have HA2 := Lib.hid (fun W => refRight_any (Fl.mk fk fK fT fl fm) W)
  have HA3 := Lib.hid (fun W => sec_any (Fl.mk fk fK fT fl fm) W)
  have HA4 := Lib.hid (fun W => has_any (Fl.mk fk fK fT fl fm) (Pn.mk k s e) W)
  have HA5 := Lib.hid (fun W => refHas_any (Fl.mk fk fK fT fl fm) (Pn.mk k s e) W)
  have HA6 := Lib.hid (fun W => row_any fk fK fT fl fm k s e W hpo)
  have HA7 := Lib.hid (fun W => refRow_any fk fK fT fl fm k s e W hpo)
  obtain ⟨rr, hrr⟩ : ∃ b, (Fl.mk fk fK fT fl fm).right = b := ⟨_, rfl⟩
  obtain ⟨hs9, hh9⟩ : ∃ b, (Fl.mk fk fK fT fl fm).has (Pn.mk k s e) = b := ⟨_, rfl⟩
  obtain ⟨sec, hsec⟩ : ∃ b, decide (fk = 3) = b := ⟨_, rfl⟩
  have hsf : (Fl.mk fk fK fT fl fm).sec = sec := hsec
  rw [hrr] at HA1 HA2
  rw [hsf] at HA3
  rw [hh9] at HA4 HA5
  rw [hsec] at HPP HPR HA6 HA7
  obtain ⟨R, hR⟩ : ∃ R, row sec (Pn.mk k s e) = R := ⟨_, rfl⟩
  rw [hR] at HA6 HA7
  have hs3 : ((fk : Int) == 3) = sec := by
    rw [← hsec]
    by_cases h : fk = 3
    · subst h; rfl
    · rw [decide_eq_false h, beq_eq_false_iff_ne]; omega
  unfold Fl.val at HBO HBR HA1 HA2 HA3 HA4 HA5
  unfold Pn.val at HA4 HA5
  dsimp only at HBO HBR HA1 HA2 HA3 HA4 HA5
  have E0 : Below wc.heap.size wc wc := Below.refl _ _
  obtain ⟨⟨⟨f0, f1, f2, f3, f4⟩, d0, d1, d2⟩, ⟨r0, r1, r2, r3, r4⟩, p0, p1, p2⟩ := HD.out _ E0
  clear hh hpo hrs hrr hh9 hsec hsf hR DV H D0
  go_wp2_with fail
  clear f0 f1 f2 f3 f4 d0 d1 d2 r0 r1 r2 r3 r4 p0 p1 p2
  refine (HBO.out _).mono ?_
  rintro x w4 ⟨U1, V1, rfl, hU1, hV1, b4⟩
  have E1 := below_next E0 b4
  have HUV := Lib.hid (And.intro hU1 hV1)
  obtain ⟨⟨⟨f0, f1, f2, f3, f4⟩, d0, d1, d2⟩, ⟨r0, r1, r2, r3, r4⟩, p0, p1, p2⟩ := HD.out _ E1
  clear hU1 hV1 b4 E0
  go_wp2_with fail
  clear f0 f1 f2 f3 f4 d0 d1 d2 r0 r1 r2 r3 r4 p0 p1 p2
  refine (HBR.out _).mono ?_
  rintro x w5 ⟨U2, V2, rfl, hU2, hV2, b5⟩
  obtain rfl := nums_inj (hU2.trans HUV.out.1.symm)
  obtain rfl := nums_inj (hV2.trans HUV.out.2.symm)
  have E2 := below_next E1 b5
  obtain ⟨⟨⟨f0, f1, f2, f3, f4⟩, d0, d1, d2⟩, ⟨r0, r1, r2, r3, r4⟩, p0, p1, p2⟩ := HD.out _ E2
  clear hU2 hV2 b5 E1 HUV
  go_wp2_with fail
  clear f0 f1 f2 f3 f4 d0 d1 d2 r0 r1 r2 r3 r4 p0 p1 p2
  refine (HPP.out _).mono ?_
  rintro x w6 ⟨ok, qk, qs, qe, rfl, hpn, b6⟩
  have E3 := below_next E2 b6
  have HPN := Lib.hid hpn
  obtain ⟨w7, hw7⟩ : ∃ v, w6.alloc (.cells #[.string qk, .int .i64 qs, .int .i64 qe] 33) = v := ⟨_, rfl⟩
  have H7 := Lib.hid (((Held.start wc).step E3).new #[.string qk, .int .i64 qs, .int .i64 qe] 33)
  rw [hw7] at H7
  obtain ⟨h1, hh1⟩ : ∃ v, w6.heap.size = v := ⟨_, rfl⟩
  rw [hh1] at H7
  obtain ⟨⟨⟨f0, f1, f2, f3, f4⟩, d0, d1, d2⟩, ⟨r0, r1, r2, r3, r4⟩, p0, p1, p2⟩ := HD.out _ H7.out.1
  clear hpn b6 E2
  go_wp2_with fail
  clear f0 f1 f2 f3 f4 d0 d1 d2 r0 r1 r2 r3 r4 p0 p1 p2 hw7
  try rw [hh1]
  refine (HPR.out _).mono ?_
  rintro x w8 ⟨ok2, qk2, qs2, qe2, rfl, hpn2, b8⟩
  obtain ⟨hok, hpe⟩ := paneOf_one hpn2 HPN.out
  injection hpe with e1 e2 e3
  have hok := hok.symm
  have e1 := e1.symm
  have e2 := e2.symm
  have e3 := e3.symm
  subst hok e1 e2 e3
  have H8 := Lib.hid ((H7.out.step b8).new #[.string qk, .int .i64 qs, .int .i64 qe] 34)
  obtain ⟨w9, hw9⟩ : ∃ v, w8.alloc (.cells #[.string qk, .int .i64 qs, .int .i64 qe] 34) = v := ⟨_, rfl⟩
  rw [hw9] at H8
  obtain ⟨h2, hh2⟩ : ∃ v, w8.heap.size = v := ⟨_, rfl⟩
  rw [hh2] at H8
  have HE : Hid (∀ W, Below w9.heap.size w9 W → (fun W => (((W.cell? ⟨w.heap.size, 0, none⟩ = some (.int .u8 (fk : Int)) ∧ W.cell? ⟨w.heap.size, 1, none⟩ = some (.string fK) ∧ W.cell? ⟨w.heap.size, 2, none⟩ = some (.string fT) ∧ W.cell? ⟨w.heap.size, 3, none⟩ = some (.int .i64 fl) ∧ W.cell? ⟨w.heap.size, 4, none⟩ = some (.int .i64 fm)) ∧ W.cell? ⟨w.heap.size + 1, 0, none⟩ = some (.string k) ∧ W.cell? ⟨w.heap.size + 1, 1, none⟩ = some (.int .i64 s) ∧ W.cell? ⟨w.heap.size + 1, 2, none⟩ = some (.int .i64 e)) ∧ (W.cell? ⟨g1, 0, none⟩ = some (.int .u8 (fk : Int)) ∧ W.cell? ⟨g1, 1, none⟩ = some (.string fK) ∧ W.cell? ⟨g1, 2, none⟩ = some (.string fT) ∧ W.cell? ⟨g1, 3, none⟩ = some (.int .i64 fl) ∧ W.cell? ⟨g1, 4, none⟩ = some (.int .i64 fm)) ∧ W.cell? ⟨g2, 0, none⟩ = some (.string k) ∧ W.cell? ⟨g2, 1, none⟩ = some (.int .i64 s) ∧ W.cell? ⟨g2, 2, none⟩ = some (.int .i64 e)) ∧ (W.cell? ⟨h1, 0, none⟩ = some (.string qk) ∧ W.cell? ⟨h1, 1, none⟩ = some (.int .i64 qs) ∧ W.cell? ⟨h1, 2, none⟩ = some (.int .i64 qe)) ∧ W.cell? ⟨h2, 0, none⟩ = some (.string qk) ∧ W.cell? ⟨h2, 1, none⟩ = some (.int .i64 qs) ∧ W.cell? ⟨h2, 2, none⟩ = some (.int .i64 qe)) W) := Lib.hid fun W hW => by
    have h := (H8.out.step hW).2
    have k2 := h _ (List.mem_cons_self ..)
    have k1 := h _ (List.mem_cons_of_mem _ (List.mem_cons_self ..))
    exact ⟨HD.out _ (below_next H8.out.1 hW), ⟨k1.cell 0, k1.cell 1, k1.cell 2⟩, k2.cell 0, k2.cell 1, k2.cell 2⟩
  obtain ⟨⟨⟨⟨f0, f1, f2, f3, f4⟩, d0, d1, d2⟩, ⟨r0, r1, r2, r3, r4⟩, p0, p1, p2⟩, ⟨x0, x1, x2⟩, y0, y1, y2⟩ := HE.out _ (Below.refl _ _)
  have HA8 := Lib.hid (fun W => lpane_any qk qs qe W)
  have g9 := rpane_guard
  have q9 := fun W => rpane_self qk qs qe W
  have D0 : Below w9.heap.size w9 w9.drew := (Below.refl _ _).drew
  clear hpn2 b8
  go_wp2_with fail
  clear f0 f1 f2 f3 f4 d0 d1 d2 r0 r1 r2 r3 r4 p0 p1 p2 x0 x1 x2 y0 y1 y2 hw9

  go_region_held3 (fun W => (((W.cell? ⟨w.heap.size, 0, none⟩ = some (.int .u8 (fk : Int)) ∧ W.cell? ⟨w.heap.size, 1, none⟩ = some (.string fK) ∧ W.cell? ⟨w.heap.size, 2, none⟩ = some (.string fT) ∧ W.cell? ⟨w.heap.size, 3, none⟩ = some (.int .i64 fl) ∧ W.cell? ⟨w.heap.size, 4, none⟩ = some (.int .i64 fm)) ∧ W.cell? ⟨w.heap.size + 1, 0, none⟩ = some (.string k) ∧ W.cell? ⟨w.heap.size + 1, 1, none⟩ = some (.int .i64 s) ∧ W.cell? ⟨w.heap.size + 1, 2, none⟩ = some (.int .i64 e)) ∧ (W.cell? ⟨g1, 0, none⟩ = some (.int .u8 (fk : Int)) ∧ W.cell? ⟨g1, 1, none⟩ = some (.string fK) ∧ W.cell? ⟨g1, 2, none⟩ = some (.string fT) ∧ W.cell? ⟨g1, 3, none⟩ = some (.int .i64 fl) ∧ W.cell? ⟨g1, 4, none⟩ = some (.int .i64 fm)) ∧ W.cell? ⟨g2, 0, none⟩ = some (.string k) ∧ W.cell? ⟨g2, 1, none⟩ = some (.int .i64 s) ∧ W.cell? ⟨g2, 2, none⟩ = some (.int .i64 e)) ∧ (W.cell? ⟨h1, 0, none⟩ = some (.string qk) ∧ W.cell? ⟨h1, 1, none⟩ = some (.int .i64 qs) ∧ W.cell? ⟨h1, 2, none⟩ = some (.int .i64 qe)) ∧ W.cell? ⟨h2, 0, none⟩ = some (.string qk) ∧ W.cell? ⟨h2, 1, none⟩ = some (.int .i64 qs) ∧ W.cell? ⟨h2, 2, none⟩ = some (.int .i64 qe)) (first | with_reducible exact HE.out _ D0 | with_reducible exact HE.out _ D1 | with_reducible exact HE.out _ D2 | with_reducible exact HE.out _ D3 | with_reducible exact HE.out _ D4 | with_reducible exact HE.out _ D5 | with_reducible exact HE.out _ D6 | with_reducible exact HE.out _ D7 | with_reducible exact HE.out _ D8 | with_reducible exact HE.out _ D9) (first
    | (go_at_call 9; have _ := D8; (with_reducible refine (works_any _).mono ?_); rintro x y9 ⟨rfl, d9⟩; have D9 := below_next D8 d9; clear D8 d9)
    | (go_at_call 11; have _ := D7; (with_reducible refine (HA8.out _).mono ?_); rintro x y8 ⟨rfl, d8⟩; have D8 := below_next D7 d8; clear D7 d8)
    | (go_at_call 33; have _ := D6; (with_reducible refine (HA7.out _).mono ?_); rintro x y7 ⟨U7, rfl, hU7, _, d7⟩; have D7 := below_next D6 d7; clear D6 d7; obtain rfl := nums_inj (hU7.trans HU6.out.symm); clear hU7)
    | (go_at_call 23; have _ := D5; (with_reducible refine (HA6.out _).mono ?_); rintro x y6 ⟨U6, rfl, hU6, _, d6⟩; have D6 := below_next D5 d6; clear D5 d6; have HU6 := Lib.hid hU6; clear hU6)
    | (go_at_call 21; have _ := D4; (with_reducible refine (HA5.out _).mono ?_); rintro x y5 ⟨rfl, d5⟩; have D5 := below_next D4 d5; clear D4 d5)
    | (go_at_call 19; have _ := D3; (with_reducible refine (HA4.out _).mono ?_); rintro x y4 ⟨rfl, d4⟩; have D4 := below_next D3 d4; clear D3 d4)
    | (go_at_call 32; have _ := D2; (with_reducible refine (HA3.out _).mono ?_); rintro x y3 ⟨rfl, d3⟩; have D3 := below_next D2 d3; clear D2 d3)
    | (go_at_call 31; have _ := D1; (with_reducible refine (HA2.out _).mono ?_); rintro x y2 ⟨rfl, d2⟩; have D2 := below_next D1 d2; clear D1 d2)
    | (go_at_call 20; have _ := D0; (with_reducible refine (HA1.out _).mono ?_); rintro x y1 ⟨rfl, d1⟩; have D1 := below_next D0 d1; clear D0 d1))
  go_wp2_with fail
  go_ret
  exact ⟨rfl, HBE.out.trans ((below_next HB1.out (below_next HG.out.1 (below_next H8.out.1 D9))).mono HBE.out.size)⟩
end Go.Proofs.Ytponelbfddfliaa
