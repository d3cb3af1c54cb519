/- Layer 9, the program: a request's parts left blank; whether it has no others; whether it is right. -/
import Derived.Test.YtgailpljcobabaaDoorRqB
import Derived.Laws.StructEq
namespace Go.Proofs.YtgailpljcobabaaDoor
open Go.ChangeShapes Go.WideShapes Go.ChangeAt Go.RowKit

theorem req_equal (a b : Rq.V) (w : World) : (Op.equalIn 10000 26 (.agg a.cells) (.agg b.cells)).run Tryd.prog w = .ok (Rq.eqb a b) w := by
  have hS : Tryd.prog.underlying 26 = some (.struct (Tryd.prog.fieldsOf 26)) := by kernel_rfl
  have hp : Tryd.prog.stoodInHeld 26 = false := by kernel_rfl
  rw [show (10000 : Nat) = 9999 + 1 from rfl, run_equalIn_agg w 9999 26 _ _ hS hp]
  obtain ⟨a1, a2, a3, a4, a5, a6, a7, a8, a9, a10, a11⟩ := a
  obtain ⟨b1, b2, b3, b4, b5, b6, b7, b8, b9, b10, b11⟩ := b
  simp only [Program.fieldsOf, Tryd.underlying26]
  unfold Rq.eqb Rq.V.cells
  dsimp only
  go_simp
  by_cases h1 : (a1 : Int) = (b1 : Int)
  rotate_left
  · rw [if_neg h1, show ((a1 : Int) == (b1 : Int)) = false from beq_eq_false_iff_ne.2 h1]
    first | rfl | simp
  rw [if_pos h1, show ((a1 : Int) == (b1 : Int)) = true from beq_iff_eq.2 h1]
  by_cases h2 : (a2 : Int) = (b2 : Int)
  rotate_left
  · rw [if_neg h2, show ((a2 : Int) == (b2 : Int)) = false from beq_eq_false_iff_ne.2 h2]
    first | rfl | simp
  rw [if_pos h2, show ((a2 : Int) == (b2 : Int)) = true from beq_iff_eq.2 h2]
  by_cases h3 : (a3 : Int) = (b3 : Int)
  rotate_left
  · rw [if_neg h3, show ((a3 : Int) == (b3 : Int)) = false from beq_eq_false_iff_ne.2 h3]
    first | rfl | simp
  rw [if_pos h3, show ((a3 : Int) == (b3 : Int)) = true from beq_iff_eq.2 h3]
  by_cases h4 : (a4 : Int) = (b4 : Int)
  rotate_left
  · rw [if_neg h4, show ((a4 : Int) == (b4 : Int)) = false from beq_eq_false_iff_ne.2 h4]
    first | rfl | simp
  rw [if_pos h4, show ((a4 : Int) == (b4 : Int)) = true from beq_iff_eq.2 h4]
  by_cases h5 : (a5 : Int) = (b5 : Int)
  rotate_left
  · rw [if_neg h5, show ((a5 : Int) == (b5 : Int)) = false from beq_eq_false_iff_ne.2 h5]
    first | rfl | simp
  rw [if_pos h5, show ((a5 : Int) == (b5 : Int)) = true from beq_iff_eq.2 h5]
  by_cases h6 : (a6 : Int) = (b6 : Int)
  rotate_left
  · rw [if_neg h6, show ((a6 : Int) == (b6 : Int)) = false from beq_eq_false_iff_ne.2 h6]
    first | rfl | simp
  rw [if_pos h6, show ((a6 : Int) == (b6 : Int)) = true from beq_iff_eq.2 h6]
  by_cases h7 : (a7 : Int) = (b7 : Int)
  rotate_left
  · rw [if_neg h7, show ((a7 : Int) == (b7 : Int)) = false from beq_eq_false_iff_ne.2 h7]
    first | rfl | simp
  rw [if_pos h7, show ((a7 : Int) == (b7 : Int)) = true from beq_iff_eq.2 h7]
  by_cases h8 : a8.toList = b8.toList
  rotate_left
  · rw [if_neg h8, show (a8.toList == b8.toList) = false from beq_eq_false_iff_ne.2 h8]
    first | rfl | simp
  rw [if_pos h8, show (a8.toList == b8.toList) = true from beq_iff_eq.2 h8]
  by_cases h9 : a9.toList = b9.toList
  rotate_left
  · rw [if_neg h9, show (a9.toList == b9.toList) = false from beq_eq_false_iff_ne.2 h9]
    first | rfl | simp
  rw [if_pos h9, show (a9.toList == b9.toList) = true from beq_iff_eq.2 h9]
  by_cases h10 : a10 = b10
  rotate_left
  · rw [if_neg h10, show (a10 == b10) = false from beq_eq_false_iff_ne.2 h10]
    first | rfl | simp
  rw [if_pos h10, show (a10 == b10) = true from beq_iff_eq.2 h10]
  by_cases h11 : a11 = b11
  rotate_left
  · rw [if_neg h11, show (a11 == b11) = false from beq_eq_false_iff_ne.2 h11]
    first | rfl | simp
  rw [if_pos h11, show (a11 == b11) = true from beq_iff_eq.2 h11]
  rfl
theorem req_guard : Tryd.prog.eqGuardType Tryd.prog.depth 26 = false := by kernel_rfl
set_option maxRecDepth 100000 in
theorem era_u8 (R i : Nat) (u : Value) (w : World) (hc : w.cell? ⟨R, i, none⟩ = some u) (hf : w.frozen? ⟨R, i, none⟩ = false) : Calls Tryd.prog 110 #[.agg #[], .pointer (some ⟨R, i, none⟩)] w fun e w' => e = .returned (.tuple #[]) ∧ w' = (w.alloc (.cells #[] 97)).setCell ⟨R, i, none⟩ (.int .u8 0) := by
  have hlt := World.block_lt_of_cell? w _ hc
  have c1 : (w.alloc (.cells #[] 97)).cell? ⟨R, i, none⟩ = some u := by rw [World.cell?_alloc_lt _ _ _ hlt]; exact hc
  have c2 : (w.alloc (.cells #[] 97)).frozen? ⟨R, i, none⟩ = false := by
    rw [World.frozen?_of_block (w := w) (by exact Below.heap_alloc _ _ _ hlt)]; exact hf
  clear hc hf
  go_enter Tryd.func110, Tryd.ntmps110
  go_wp2_with fail
  go_end0
  exact ⟨rfl, rfl⟩
set_option maxRecDepth 100000 in
theorem era_u16 (R i : Nat) (u : Value) (w : World) (hc : w.cell? ⟨R, i, none⟩ = some u) (hf : w.frozen? ⟨R, i, none⟩ = false) : Calls Tryd.prog 108 #[.agg #[], .pointer (some ⟨R, i, none⟩)] w fun e w' => e = .returned (.tuple #[]) ∧ w' = (w.alloc (.cells #[] 97)).setCell ⟨R, i, none⟩ (.int .u16 0) := by
  have hlt := World.block_lt_of_cell? w _ hc
  have c1 : (w.alloc (.cells #[] 97)).cell? ⟨R, i, none⟩ = some u := by rw [World.cell?_alloc_lt _ _ _ hlt]; exact hc
  have c2 : (w.alloc (.cells #[] 97)).frozen? ⟨R, i, none⟩ = false := by
    rw [World.frozen?_of_block (w := w) (by exact Below.heap_alloc _ _ _ hlt)]; exact hf
  clear hc hf
  go_enter Tryd.func108, Tryd.ntmps108
  go_wp2_with fail
  go_end0
  exact ⟨rfl, rfl⟩
set_option maxRecDepth 100000 in
theorem era_u64 (R i : Nat) (u : Value) (w : World) (hc : w.cell? ⟨R, i, none⟩ = some u) (hf : w.frozen? ⟨R, i, none⟩ = false) : Calls Tryd.prog 109 #[.agg #[], .pointer (some ⟨R, i, none⟩)] w fun e w' => e = .returned (.tuple #[]) ∧ w' = (w.alloc (.cells #[] 97)).setCell ⟨R, i, none⟩ (.int .u64 0) := by
  have hlt := World.block_lt_of_cell? w _ hc
  have c1 : (w.alloc (.cells #[] 97)).cell? ⟨R, i, none⟩ = some u := by rw [World.cell?_alloc_lt _ _ _ hlt]; exact hc
  have c2 : (w.alloc (.cells #[] 97)).frozen? ⟨R, i, none⟩ = false := by
    rw [World.frozen?_of_block (w := w) (by exact Below.heap_alloc _ _ _ hlt)]; exact hf
  clear hc hf
  go_enter Tryd.func109, Tryd.ntmps109
  go_wp2_with fail
  go_end0
  exact ⟨rfl, rfl⟩
set_option maxRecDepth 100000 in
theorem era_text (R i : Nat) (u : Value) (w : World) (hc : w.cell? ⟨R, i, none⟩ = some u) (hf : w.frozen? ⟨R, i, none⟩ = false) : Calls Tryd.prog 107 #[.agg #[], .pointer (some ⟨R, i, none⟩)] w fun e w' => e = .returned (.tuple #[]) ∧ w' = (w.alloc (.cells #[] 97)).setCell ⟨R, i, none⟩ (.string ⟨#[]⟩) := by
  have hlt := World.block_lt_of_cell? w _ hc
  have c1 : (w.alloc (.cells #[] 97)).cell? ⟨R, i, none⟩ = some u := by rw [World.cell?_alloc_lt _ _ _ hlt]; exact hc
  have c2 : (w.alloc (.cells #[] 97)).frozen? ⟨R, i, none⟩ = false := by
    rw [World.frozen?_of_block (w := w) (by exact Below.heap_alloc _ _ _ hlt)]; exact hf
  clear hc hf
  go_enter Tryd.func107, Tryd.ntmps107
  go_wp2_with fail
  go_end0
  exact ⟨rfl, rfl⟩
set_option maxRecDepth 100000 in
theorem era_whole (R i : Nat) (u : Value) (w : World) (hc : w.cell? ⟨R, i, none⟩ = some u) (hf : w.frozen? ⟨R, i, none⟩ = false) : Calls Tryd.prog 111 #[.agg #[], .pointer (some ⟨R, i, none⟩)] w fun e w' => e = .returned (.tuple #[]) ∧ w' = (w.alloc (.cells #[] 97)).setCell ⟨R, i, none⟩ (.int .i64 0) := by
  have hlt := World.block_lt_of_cell? w _ hc
  have c1 : (w.alloc (.cells #[] 97)).cell? ⟨R, i, none⟩ = some u := by rw [World.cell?_alloc_lt _ _ _ hlt]; exact hc
  have c2 : (w.alloc (.cells #[] 97)).frozen? ⟨R, i, none⟩ = false := by
    rw [World.frozen?_of_block (w := w) (by exact Below.heap_alloc _ _ _ hlt)]; exact hf
  clear hc hf
  go_enter Tryd.func111, Tryd.ntmps111
  go_wp2_with fail
  go_end0
  exact ⟨rfl, rfl⟩
def eraF (i : Nat) : FuncId := if i = 2 then 110 else if i = 3 then 108 else if i = 4 then 109 else if i = 5 then 109 else if i = 6 then 110 else if i = 7 then 107 else if i = 8 then 107 else 111
theorem era_visitor : Visitor 97 (.agg #[]) (.agg #[]) eraF where
  u8 i hi := by
    rcases hi with rfl | rfl <;> exact ⟨fun _ => by kernel_rfl, fun _ _ => by kernel_rfl, fun _ => by kernel_rfl⟩
  u16 := ⟨fun _ => by kernel_rfl, fun _ _ => by kernel_rfl, fun _ => by kernel_rfl⟩
  u64 i hi := by
    rcases hi with rfl | rfl <;> exact ⟨fun _ => by kernel_rfl, fun _ _ => by kernel_rfl, fun _ => by kernel_rfl⟩
  text i hi := by
    rcases hi with rfl | rfl <;> exact ⟨fun _ => by kernel_rfl, fun _ _ => by kernel_rfl, fun _ => by kernel_rfl⟩
  whole i hi := by
    rcases hi with rfl | rfl <;> exact ⟨fun _ => by kernel_rfl, fun _ _ => by kernel_rfl, fun _ => by kernel_rfl⟩
theorem era_any (R i : Nat) (u : Value) (w : World) (hi : 2 ≤ i ∧ i ≤ 10) (hc : w.cell? ⟨R, i, none⟩ = some u) (hf : w.frozen? ⟨R, i, none⟩ = false) : Calls Tryd.prog (eraF i) #[.agg #[], .pointer (some ⟨R, i, none⟩)] w fun e w' => e = .returned (.tuple #[]) ∧ w' = (w.alloc (.cells #[] 97)).setCell ⟨R, i, none⟩ (Rq.zero i) := by
  rcases Rq.field_cases hi with rfl | rfl | rfl | rfl | rfl | rfl | rfl | rfl | rfl
  · exact era_u8 R 2 u w hc hf
  · exact era_u16 R 3 u w hc hf
  · exact era_u64 R 4 u w hc hf
  · exact era_u64 R 5 u w hc hf
  · exact era_u8 R 6 u w hc hf
  · exact era_text R 7 u w hc hf
  · exact era_text R 8 u w hc hf
  · exact era_whole R 9 u w hc hf
  · exact era_whole R 10 u w hc hf
theorem Rq.V.cells_size (x : Rq.V) : x.cells.size = 11 := rfl
theorem held_iter {w wr : World} {g R : Nat} {t : TypeId} {cs : Array Value} {s : ByteArray} {p q : Nat} (hg : w.heap.size ≤ g) (h : Held w wr [(R, t, cs)]) (hi : wr.heap[g]? = some (.stringIter s p)) : Held w (wr.iterAt g s q) [(R, t, cs)] := by
  have hb : ∀ k, k ≠ g → (wr.iterAt g s q).heap[k]? = wr.heap[k]? := fun k hk => by
    show (wr.heap.setIfInBounds g (.stringIter s q))[k]? = _
    rw [Array.getElem?_setIfInBounds_ne (by omega)]
  refine ⟨h.1.trans ⟨rfl, rfl, rfl, by show wr.heap.size ≤ (wr.heap.setIfInBounds g (.stringIter s q)).size; simp, fun k hk => hb k (by omega)⟩, fun y hy => ?_⟩
  obtain rfl := List.mem_singleton.1 hy
  have hk := h.top
  exact (hb R (it_ne hi hk)).trans hk
theorem its_set {w : World} {g i : Nat} {t : TypeId} {cs : Array Value} {u : Value} (h : Blk w g t cs) : Its w (w.setCell ⟨g, i, none⟩ u) := fun k _ _ hk => (Below.heap_setCell w ⟨g, i, none⟩ u k (fun e => it_ne hk h e.symm)).trans hk
theorem held_put {w W : World} {g : Nat} {t : TypeId} {cs : Array Value} (h : Held w W [(g, t, cs)]) (hg : w.heap.size ≤ g) (i : Nat) (u : Value) : Held w (W.setCell ⟨g, i, none⟩ u) [(g, t, cs.setIfInBounds i u)] :=
  ⟨h.1.setCell (p := ⟨g, i, none⟩) hg u, fun y hy => by
    obtain rfl := List.mem_singleton.1 hy
    exact h.top.set_ i u⟩
theorem era_steps (w : World) (x : Rq.V) : Steps w.heap.size w.heap.size (.agg #[]) eraF (fun l wr => Held w wr [(w.heap.size, 26, (l.foldl Rq.V.out x).cells)]) where
  below _ _ _ h b := h.step b
  iter _ _ _ _ _ _ hg h hi := held_iter hg h hi
  step l i wr _ hi h := by
    have hz : i < (l.foldl Rq.V.out x).cells.size := by rw [Rq.V.cells_size]; omega
    have hk := h.top
    refine (era_any _ i ((l.foldl Rq.V.out x).cells[i]) wr hi ((hk.cell _).trans (Array.getElem?_eq_getElem hz)) (hk.frozen _)).mono ?_
    rintro e w' ⟨rfl, rfl⟩
    have b1 : Below wr.heap.size wr (wr.alloc (.cells #[] 97)) := (Below.refl _ _).alloc (Nat.le_refl _) _
    have h1 := h.step b1
    refine ⟨rfl, ?_, (Its.below b1).trans (its_set h1.top)⟩
    rw [List.foldl_append]
    show Held w _ [(_, _, ((l.foldl Rq.V.out x).out i).cells)]
    rw [Rq.V.out_cells _ i hi]
    exact held_put h1 (Nat.le_refl _) _ _
/-- A request's cells, in a block. -/
def ReqCells (W : World) (g : Nat) (x : Rq.V) : Prop :=
  W.cell? ⟨g, 0, none⟩ = some (.int .u8 (x.k : Int)) ∧ W.cell? ⟨g, 1, none⟩ = some (.int .u32 (x.id : Int)) ∧ W.cell? ⟨g, 2, none⟩ = some (.int .u8 (x.pg : Int)) ∧ W.cell? ⟨g, 3, none⟩ = some (.int .u16 (x.du : Int)) ∧ W.cell? ⟨g, 4, none⟩ = some (.int .u64 (x.at_ : Int)) ∧ W.cell? ⟨g, 5, none⟩ = some (.int .u64 (x.le : Int)) ∧ W.cell? ⟨g, 6, none⟩ = some (.int .u8 (x.so : Int)) ∧ W.cell? ⟨g, 7, none⟩ = some (.string x.ky) ∧ W.cell? ⟨g, 8, none⟩ = some (.string x.to) ∧ W.cell? ⟨g, 9, none⟩ = some (.int .i64 x.lo) ∧ W.cell? ⟨g, 10, none⟩ = some (.int .i64 x.hi)
def ReqFree (W : World) (g : Nat) : Prop :=
  W.frozen? ⟨g, 0, none⟩ = false ∧ W.frozen? ⟨g, 1, none⟩ = false ∧ W.frozen? ⟨g, 2, none⟩ = false ∧ W.frozen? ⟨g, 3, none⟩ = false ∧ W.frozen? ⟨g, 4, none⟩ = false ∧ W.frozen? ⟨g, 5, none⟩ = false ∧ W.frozen? ⟨g, 6, none⟩ = false ∧ W.frozen? ⟨g, 7, none⟩ = false ∧ W.frozen? ⟨g, 8, none⟩ = false ∧ W.frozen? ⟨g, 9, none⟩ = false ∧ W.frozen? ⟨g, 10, none⟩ = false
theorem req_cells {W : World} {g : Nat} {t : TypeId} {x : Rq.V} (h : Blk W g t x.cells) : ReqCells W g x ∧ ReqFree W g :=
  ⟨⟨h.cell 0, h.cell 1, h.cell 2, h.cell 3, h.cell 4, h.cell 5, h.cell 6, h.cell 7, h.cell 8, h.cell 9, h.cell 10⟩, ⟨h.frozen 0, h.frozen 1, h.frozen 2, h.frozen 3, h.frozen 4, h.frozen 5, h.frozen 6, h.frozen 7, h.frozen 8, h.frozen 9, h.frozen 10⟩⟩
set_option maxRecDepth 100000 in
set_option maxHeartbeats 4000000 in
theorem hasNoOther_any (x : Rq.V) (w : World) (hV : Vars w) (hk : x.k < 256) :
    Calls Tryd.prog 35 #[x.val] w fun e w' => e = .returned (.bool x.bare) ∧ Below w.heap.size w w' := by
  have S0 := Lib.hid ((Held.start w).new x.cells 26)
  have V0 : Hid (∀ W, Held w W [(w.heap.size, 26, x.cells)] → Calls Tryd.prog 30 #[.pointer (some ⟨w.heap.size, 0, none⟩), .iface 97 (.agg #[])] W fun e w' => e = .returned (.tuple #[]) ∧ Held w w' [(w.heap.size, 26, x.blanked.cells)]) := Lib.hid fun W hW =>
    visit_any w.heap.size w.heap.size _ x.k _ _ eraF _ (era_steps w x) era_visitor W (hV.next hW.1) hk hW.1.size (hW.top.cell 0) hW
  have QE : Hid (∀ W, (Op.equalIn 10000 26 (.agg x.blanked.cells) (.agg (Rq.only x.k x.id).cells)).run Tryd.prog W = .ok x.bare W) := Lib.hid fun W => req_equal x.blanked (Rq.only x.k x.id) W
  obtain ⟨bk, bi⟩ := x.blanked_k
  obtain ⟨b, hb⟩ : ∃ b, x.bare = b := ⟨_, rfl⟩
  rw [hb] at QE ⊢
  obtain ⟨y, hy⟩ : ∃ y, x.blanked = y := ⟨_, rfl⟩
  rw [hy] at QE V0 bk bi
  rw [← bk, ← bi] at QE
  clear hV hk hb hy bk bi
  obtain ⟨k, id, pg, du, a, l, s, ky, to, lo, hi⟩ := x
  obtain ⟨k', id', pg', du', a', l', s', ky', to', lo', hi'⟩ := y
  have hg := req_guard
  unfold Rq.V.val Rq.only at *
  unfold Rq.V.cells at *
  dsimp only at *
  go_enter Tryd.func35, Tryd.ntmps35
  go_wp2_with fail
  refine (V0.out _ S0.out).mono ?_
  rintro e w1 ⟨rfl, h1⟩
  obtain ⟨y0, y1, y2, y3, y4, y5, y6, y7, y8, y9, y10⟩ := (req_cells (x := ⟨k', id', pg', du', a', l', s', ky', to', lo', hi'⟩) h1.top).1
  dsimp only at y0 y1 y2 y3 y4 y5 y6 y7 y8 y9 y10
  have H1 := Lib.hid h1.1
  have q : ∀ W, (Op.equalIn 10000 26 (.agg #[.int .u8 (k' : Int), .int .u32 (id' : Int), .int .u8 (pg' : Int), .int .u16 (du' : Int), .int .u64 (a' : Int), .int .u64 (l' : Int), .int .u8 (s' : Int), .string ky', .string to', .int .i64 lo', .int .i64 hi']) (.agg #[.int .u8 (k' : Int), .int .u32 (id' : Int), .int .u8 0, .int .u16 0, .int .u64 0, .int .u64 0, .int .u8 0, .string ⟨#[]⟩, .string ⟨#[]⟩, .int .i64 0, .int .i64 0])).run Tryd.prog W = .ok b W := QE.out
  clear h1
  go_wp2_with fail
  go_ret
  exact ⟨rfl, H1.out⟩
end Go.Proofs.YtgailpljcobabaaDoor
