/- Layer 8, the program: a reply's parts left blank; whether it has no others. -/
import Derived.Test.YtognlgklepgemaaGreatRpV
import Derived.Test.YtognlgklepgemaaGreatRpE
namespace Go.Proofs.YtognlgklepgemaaGreat
open Go.ChangeShapes Go.WideShapes Go.ChangeAt Go.RowKit

set_option maxRecDepth 100000 in
theorem era_code (R i : Nat) (u : Value) (w : World) (hc : w.cell? ⟨R, i, none⟩ = some u) (hf : w.frozen? ⟨R, i, none⟩ = false) : Calls Tryz.prog 134 #[.agg #[], .pointer (some ⟨R, i, none⟩)] w fun e w' => e = .returned (.tuple #[]) ∧ w' = (w.alloc (.cells #[] 132)).setCell ⟨R, i, none⟩ (.int .u16 0) := by
  have hlt := World.block_lt_of_cell? w _ hc
  have c1 : (w.alloc (.cells #[] 132)).cell? ⟨R, i, none⟩ = some u := by rw [World.cell?_alloc_lt _ _ _ hlt]; exact hc
  have c2 : (w.alloc (.cells #[] 132)).frozen? ⟨R, i, none⟩ = false := by
    rw [World.frozen?_of_block (w := w) (by exact Below.heap_alloc _ _ _ hlt)]; exact hf
  clear hc hf
  go_enter Tryz.func134, Tryz.ntmps134
  go_wp2_with fail
  go_end0
  exact ⟨rfl, rfl⟩
set_option maxRecDepth 100000 in
theorem era_flag (R i : Nat) (u : Value) (w : World) (hc : w.cell? ⟨R, i, none⟩ = some u) (hf : w.frozen? ⟨R, i, none⟩ = false) : Calls Tryz.prog 135 #[.agg #[], .pointer (some ⟨R, i, none⟩)] w fun e w' => e = .returned (.tuple #[]) ∧ w' = (w.alloc (.cells #[] 132)).setCell ⟨R, i, none⟩ (.bool false) := by
  have hlt := World.block_lt_of_cell? w _ hc
  have c1 : (w.alloc (.cells #[] 132)).cell? ⟨R, i, none⟩ = some u := by rw [World.cell?_alloc_lt _ _ _ hlt]; exact hc
  have c2 : (w.alloc (.cells #[] 132)).frozen? ⟨R, i, none⟩ = false := by
    rw [World.frozen?_of_block (w := w) (by exact Below.heap_alloc _ _ _ hlt)]; exact hf
  clear hc hf
  go_enter Tryz.func135, Tryz.ntmps135
  go_wp2_with fail
  go_end0
  exact ⟨rfl, rfl⟩
set_option maxRecDepth 100000 in
theorem era_number (R i : Nat) (u : Value) (w : World) (hc : w.cell? ⟨R, i, none⟩ = some u) (hf : w.frozen? ⟨R, i, none⟩ = false) : Calls Tryz.prog 136 #[.agg #[], .pointer (some ⟨R, i, none⟩)] w fun e w' => e = .returned (.tuple #[]) ∧ w' = (w.alloc (.cells #[] 132)).setCell ⟨R, i, none⟩ (.int .u64 0) := by
  have hlt := World.block_lt_of_cell? w _ hc
  have c1 : (w.alloc (.cells #[] 132)).cell? ⟨R, i, none⟩ = some u := by rw [World.cell?_alloc_lt _ _ _ hlt]; exact hc
  have c2 : (w.alloc (.cells #[] 132)).frozen? ⟨R, i, none⟩ = false := by
    rw [World.frozen?_of_block (w := w) (by exact Below.heap_alloc _ _ _ hlt)]; exact hf
  clear hc hf
  go_enter Tryz.func136, Tryz.ntmps136
  go_wp2_with fail
  go_end0
  exact ⟨rfl, rfl⟩
set_option maxRecDepth 100000 in
theorem era_rows (R i : Nat) (u : Value) (w : World) (hc : w.cell? ⟨R, i, none⟩ = some u) (hf : w.frozen? ⟨R, i, none⟩ = false) : Calls Tryz.prog 138 #[.agg #[], .pointer (some ⟨R, i, none⟩)] w fun e w' => e = .returned (.tuple #[]) ∧ w' = (w.alloc (.cells #[] 132)).setCell ⟨R, i, none⟩ (.slice none 0 0) := by
  have hlt := World.block_lt_of_cell? w _ hc
  have c1 : (w.alloc (.cells #[] 132)).cell? ⟨R, i, none⟩ = some u := by rw [World.cell?_alloc_lt _ _ _ hlt]; exact hc
  have c2 : (w.alloc (.cells #[] 132)).frozen? ⟨R, i, none⟩ = false := by
    rw [World.frozen?_of_block (w := w) (by exact Below.heap_alloc _ _ _ hlt)]; exact hf
  clear hc hf
  go_enter Tryz.func138, Tryz.ntmps138
  go_wp2_with fail
  go_end0
  exact ⟨rfl, rfl⟩
set_option maxRecDepth 100000 in
theorem era_panes (R i : Nat) (u : Value) (w : World) (hc : w.cell? ⟨R, i, none⟩ = some u) (hf : w.frozen? ⟨R, i, none⟩ = false) : Calls Tryz.prog 137 #[.agg #[], .pointer (some ⟨R, i, none⟩)] w fun e w' => e = .returned (.tuple #[]) ∧ w' = (w.alloc (.cells #[] 132)).setCell ⟨R, i, none⟩ (.slice none 0 0) := by
  have hlt := World.block_lt_of_cell? w _ hc
  have c1 : (w.alloc (.cells #[] 132)).cell? ⟨R, i, none⟩ = some u := by rw [World.cell?_alloc_lt _ _ _ hlt]; exact hc
  have c2 : (w.alloc (.cells #[] 132)).frozen? ⟨R, i, none⟩ = false := by
    rw [World.frozen?_of_block (w := w) (by exact Below.heap_alloc _ _ _ hlt)]; exact hf
  clear hc hf
  go_enter Tryz.func137, Tryz.ntmps137
  go_wp2_with fail
  go_end0
  exact ⟨rfl, rfl⟩
theorem vis_era (nm : String) (fn : FuncId) (h1 : ∀ w : World, (nilAhead 295 132 (.agg #[]) nm).run Tryz.prog w = .ok (some false) w) (h2 : ∀ (args : Array Value) (w : World), (callFunc fn args).run Tryz.prog w = .ok (.enter fn args) w) (h3 : ∀ w : World, (method 295 132 (.agg #[]) nm).run Tryz.prog w = .ok (fn, .agg #[]) w) : Vis 132 (.agg #[]) nm fn (.agg #[]) := ⟨h1, h2, h3⟩
def eraF (p : Nat) : FuncId := if p = 0 then 134 else if p = 1 then 135 else if p = 8 then 138 else if p = 9 then 137 else 136
theorem era_visitor : Visitor 132 (.agg #[]) (.agg #[]) eraF where
  code := ⟨fun _ => by kernel_rfl, fun _ _ => by kernel_rfl, fun _ => by kernel_rfl⟩
  flag := ⟨fun _ => by kernel_rfl, fun _ _ => by kernel_rfl, fun _ => by kernel_rfl⟩
  rows := ⟨fun _ => by kernel_rfl, fun _ _ => by kernel_rfl, fun _ => by kernel_rfl⟩
  panes := ⟨fun _ => by kernel_rfl, fun _ _ => by kernel_rfl, fun _ => by kernel_rfl⟩
  number p h1 h2 := by
    have e : eraF p = 136 := by
      unfold eraF
      rw [if_neg (by omega), if_neg (by omega), if_neg (by omega), if_neg (by omega)]
    rw [e]
    exact ⟨fun _ => by kernel_rfl, fun _ _ => by kernel_rfl, fun _ => by kernel_rfl⟩
/-- What is left of a part. -/
def Rp.zero (p : Nat) : Value := if p = 0 then .int .u16 0 else if p = 1 then .bool false else if p = 8 then .slice none 0 0 else if p = 9 then .slice none 0 0 else .int .u64 0
/-- The reply without one of the program's parts. -/
def Rp.V.out (x : Rp.V) (p : Nat) : Rp.V := x.blank (Rp.lett p)
theorem Rp.V.out_cells (x : Rp.V) (p : Nat) (hp : p < 10) : (x.out p).cells = x.cells.setIfInBounds (p + 2) (Rp.zero p) := by
  match p, hp with
  | 0, _ => rfl
  | 1, _ => rfl
  | 2, _ => rfl
  | 3, _ => rfl
  | 4, _ => rfl
  | 5, _ => rfl
  | 6, _ => rfl
  | 7, _ => rfl
  | 8, _ => rfl
  | 9, _ => rfl
theorem era_any (R i p : Nat) (u : Value) (w : World) (hp : p < 10) (hc : w.cell? ⟨R, i, none⟩ = some u) (hf : w.frozen? ⟨R, i, none⟩ = false) : Calls Tryz.prog (eraF p) #[.agg #[], .pointer (some ⟨R, i, none⟩)] w fun e w' => e = .returned (.tuple #[]) ∧ w' = (w.alloc (.cells #[] 132)).setCell ⟨R, i, none⟩ (Rp.zero p) := by
  match p, hp with
  | 0, _ => exact era_code R i u w hc hf
  | 1, _ => exact era_flag R i u w hc hf
  | 2, _ => exact era_number R i u w hc hf
  | 3, _ => exact era_number R i u w hc hf
  | 4, _ => exact era_number R i u w hc hf
  | 5, _ => exact era_number R i u w hc hf
  | 6, _ => exact era_number R i u w hc hf
  | 7, _ => exact era_number R i u w hc hf
  | 8, _ => exact era_rows R i u w hc hf
  | 9, _ => exact era_panes R i u w hc hf
theorem Rp.V.cells_size (x : Rp.V) : x.cells.size = 12 := rfl
theorem blk_type {w : World} {g : Nat} {t t' : TypeId} {cs cs' : Array Value} (h : Blk w g t cs) (h' : Blk w g t' cs') : t = t' := by
  unfold Blk at h h'
  rw [h] at h'
  injection h' with h'
  injection h' with _ h'
theorem parts_set {w : World} {g : Nat} {t : TypeId} {cs : Array Value} (h : Blk w g t cs) (ht : t ≠ 129) (i : Nat) (u : Value) : Parts w (w.setCell ⟨g, i, none⟩ u) := fun g' cs' hb => hb.far (fun e => by
  subst e
  exact ht (blk_type h hb)) u
theorem era_step {w0 wr : World} {R p : Nat} {x : Rp.V} (h : Held w0 wr [(R, 28, x.cells)]) (hR : w0.heap.size ≤ R) (hp : p < 10) :
    Held w0 ((wr.drew.alloc (.cells #[] 132)).setCell ⟨R, p + 2, none⟩ (Rp.zero p)) [(R, 28, (x.out p).cells)] ∧ Parts wr ((wr.drew.alloc (.cells #[] 132)).setCell ⟨R, p + 2, none⟩ (Rp.zero p)) := by
  have b1 : Below wr.heap.size wr (wr.drew.alloc (.cells #[] 132)) := (Below.refl _ _).drew.alloc (Nat.le_refl _) _
  have h1 := h.step b1
  refine ⟨?_, (Parts.below b1).trans (parts_set h1.top (by decide) _ _)⟩
  rw [x.out_cells p hp]
  exact held_set h1 hR _ _
theorem show_era (w0 wr : World) (R p : Nat) (x : Rp.V) (h : Held w0 wr [(R, 28, x.cells)]) (hR : w0.heap.size ≤ R) (hp : p < 10) :
    Calls Tryz.prog 70 #[.pointer (some ⟨R, 0, none⟩), .int .u8 (p : Int), .iface 132 (.agg #[])] wr fun e w' => e = .returned (.tuple #[]) ∧ (Held w0 w' [(R, 28, (x.out p).cells)] ∧ Parts wr w') := by
  have hi : p + 2 < x.cells.size := by rw [x.cells_size]; omega
  have hk : Blk wr.drew R 28 x.cells := h.top
  refine show_any R _ p _ (.agg #[]) eraF wr _ hp era_visitor ((era_any R (p + 2) p (x.cells[p + 2]) wr.drew hp ((hk.cell _).trans (Array.getElem?_eq_getElem hi)) (hk.frozen _)).mono ?_)
  rintro e w' ⟨rfl, rfl⟩
  exact ⟨rfl, era_step h hR hp⟩
theorem Rp.V.out_k (x : Rp.V) (p : Nat) (hp : p < 10) : (x.out p).k = x.k ∧ (x.out p).id = x.id := by
  match p, hp with
  | 0, _ => exact ⟨rfl, rfl⟩
  | 1, _ => exact ⟨rfl, rfl⟩
  | 2, _ => exact ⟨rfl, rfl⟩
  | 3, _ => exact ⟨rfl, rfl⟩
  | 4, _ => exact ⟨rfl, rfl⟩
  | 5, _ => exact ⟨rfl, rfl⟩
  | 6, _ => exact ⟨rfl, rfl⟩
  | 7, _ => exact ⟨rfl, rfl⟩
  | 8, _ => exact ⟨rfl, rfl⟩
  | 9, _ => exact ⟨rfl, rfl⟩
/-- A reply whose rows and panes, or none, are in memory. -/
def Rp.V.Some (x : Rp.V) (w : World) (B : Nat) : Prop := x.ok ∧ x.n ≤ 1000 ∧ x.m ≤ 1000 ∧ ∃ rows gone, x.In w B rows gone
theorem lt16 : (0 : Nat) < 65536 := by decide
theorem lt64 : (0 : Nat) < 18446744073709551616 := by decide
theorem le0 : (0 : Nat) ≤ 1000 := by decide
theorem Rp.V.out_some {x : Rp.V} {w : World} {B : Nat} (h : x.Some w B) (p : Nat) (hp : p < 10) : (x.out p).Some w B := by
  obtain ⟨⟨o0, o1, o2, o3, o4, o5, o6, o7, o8⟩, hn, hm, rows, gone, h1, h2⟩ := h
  match p, hp with
  | 0, _ => exact ⟨⟨o0, o1, lt16, o3, o4, o5, o6, o7, o8⟩, hn, hm, rows, gone, h1, h2⟩
  | 1, _ => exact ⟨⟨o0, o1, o2, o3, o4, o5, o6, o7, o8⟩, hn, hm, rows, gone, h1, h2⟩
  | 2, _ => exact ⟨⟨o0, o1, o2, lt64, o4, o5, o6, o7, o8⟩, hn, hm, rows, gone, h1, h2⟩
  | 3, _ => exact ⟨⟨o0, o1, o2, o3, lt64, o5, o6, o7, o8⟩, hn, hm, rows, gone, h1, h2⟩
  | 4, _ => exact ⟨⟨o0, o1, o2, o3, o4, lt64, o6, o7, o8⟩, hn, hm, rows, gone, h1, h2⟩
  | 5, _ => exact ⟨⟨o0, o1, o2, o3, o4, o5, lt64, o7, o8⟩, hn, hm, rows, gone, h1, h2⟩
  | 6, _ => exact ⟨⟨o0, o1, o2, o3, o4, o5, o6, lt64, o8⟩, hn, hm, rows, gone, h1, h2⟩
  | 7, _ => exact ⟨⟨o0, o1, o2, o3, o4, o5, o6, o7, lt64⟩, hn, hm, rows, gone, h1, h2⟩
  | 8, _ => exact ⟨⟨o0, o1, o2, o3, o4, o5, o6, o7, o8⟩, le0, hm, [], gone, RowsIn.nil, h2⟩
  | 9, _ => exact ⟨⟨o0, o1, o2, o3, o4, o5, o6, o7, o8⟩, hn, le0, rows, [], h1, PansIn.nil⟩
theorem Rp.V.outs {x : Rp.V} {w : World} {B : Nat} (l : List Nat) (hl : ∀ p ∈ l, p < 10) (h : x.Some w B) : (l.foldl Rp.V.out x).Some w B ∧ (l.foldl Rp.V.out x).k = x.k ∧ (l.foldl Rp.V.out x).id = x.id := by
  induction l generalizing x with
  | nil => exact ⟨h, rfl, rfl⟩
  | cons p l ih =>
    have hp := hl p (List.mem_cons_self ..)
    obtain ⟨h1, h2, h3⟩ := ih (fun q hq => hl q (List.mem_cons_of_mem _ hq)) (Rp.V.out_some h p hp)
    obtain ⟨k1, k2⟩ := x.out_k p hp
    exact ⟨h1, h2.trans k1, h3.trans k2⟩
theorem Rp.V.outs_parts (x : Rp.V) (k : Nat) : (Rp.parts k).foldl Rp.V.blank x = (Rp.pparts k).foldl Rp.V.out x := by
  rw [Rp.parts_map, List.foldl_map]
  rfl
/-- A reply of a kind and an id alone. -/
def Rp.only (k id : Nat) : Rp.V := ⟨k, id, 0, false, 0, 0, 0, 0, 0, 0, none, 0, 0, none, 0, 0⟩
theorem Rp.same_bare (y : Rp.V) (rows : List Rw) (gone : List Pn) (hr : rows.length = y.n) (hg : gone.length = y.m) : Rp.same y (Rp.only y.k y.id) rows [] gone [] = y.bare := by
  rw [Bool.eq_iff_iff]
  unfold Rp.same Rp.V.bare Rp.only Rp.V.nums
  simp only [Bool.and_eq_true, beq_iff_eq, rsame_iff, psame_iff, List.cons.injEq, true_and, and_true, Bool.not_eq_true']
  have e1 : rows = [] ↔ y.n = 0 := by rw [← hr]; exact List.length_eq_zero_iff.symm
  have e2 : gone = [] ↔ y.m = 0 := by rw [← hg]; exact List.length_eq_zero_iff.symm
  rw [e1, e2]
  constructor
  · rintro ⟨⟨⟨⟨h1, h2, h3, h4, h5, h6, h7⟩, h8⟩, h9⟩, h10⟩
    exact ⟨⟨⟨⟨⟨⟨⟨⟨⟨by omega, h8⟩, by omega⟩, by omega⟩, by omega⟩, by omega⟩, by omega⟩, by omega⟩, h9⟩, h10⟩
  · rintro ⟨⟨⟨⟨⟨⟨⟨⟨⟨h1, h2⟩, h3⟩, h4⟩, h5⟩, h6⟩, h7⟩, h8⟩, h9⟩, h10⟩
    exact ⟨⟨⟨⟨by omega, by omega, by omega, by omega, by omega, by omega, by omega⟩, h2⟩, h9⟩, h10⟩
set_option maxRecDepth 100000 in
set_option maxHeartbeats 4000000 in
theorem hasNoOther_any (x : Rp.V) (B : Nat) (w : World) (hx : x.Some w B) (hB : B ≤ w.heap.size) :
    Calls Tryz.prog 42 #[x.val] w fun e w' => e = .returned (.bool ((Rp.parts x.k).foldl Rp.V.blank x).bare) ∧ Below w.heap.size w w' := by
  have S0 := (Held.start w).new x.cells 28
  obtain ⟨hy, hyk, hyi⟩ := Rp.V.outs (Rp.pparts x.k) (Rp.pparts_lt x.k) hx
  have V0 : Hid (∀ W, Held w W [(w.heap.size, 28, x.cells)] → Calls Tryz.prog 39 #[.pointer (some ⟨w.heap.size, 0, none⟩), .iface 132 (.agg #[])] W fun e w' => e = .returned (.tuple #[]) ∧ Held w w' [(w.heap.size, 28, ((Rp.pparts x.k).foldl Rp.V.out x).cells)]) := Lib.hid fun W hW =>
    visit_any w.heap.size _ x.k (.agg #[]) W (fun l wr => Held w wr [(w.heap.size, 28, (l.foldl Rp.V.out x).cells)]) hx.1.1 (hW.top.cell 0) (fun w1 h1 => hW.step h1) (fun j p wr hj hp hI => by
      have hp10 : p < 10 := Rp.pparts_lt x.k p (by
        rw [← hp, List.getD_eq_getElem?_getD, List.getElem?_eq_getElem hj]
        exact List.getElem_mem _)
      have e1 : (Rp.pparts x.k).take (j + 1) = (Rp.pparts x.k).take j ++ [p] := by rw [take_snoc _ _ hj, hp]
      refine (show_era w wr w.heap.size p _ hI (Nat.le_refl _) hp10).mono fun e w' h => ?_
      refine ⟨h.1, ?_, h.2.2⟩
      rw [e1, List.foldl_append]
      exact h.2.1)
  rw [Rp.V.outs_parts]
  obtain ⟨y, hY⟩ : ∃ y, (Rp.pparts x.k).foldl Rp.V.out x = y := ⟨_, rfl⟩
  rw [hY] at V0 hy hyk hyi ⊢
  obtain ⟨yok, yn, ym, rows, gone, hin⟩ := hy
  have SM : Hid (∀ W, Below w.heap.size w W → Calls Tryz.prog 21 #[y.val, (Rp.only y.k y.id).val] W fun e w' => e = .returned (.bool y.bare) ∧ Below W.heap.size W w') := Lib.hid fun W hW => by
    rw [← Rp.same_bare y rows gone hin.1.1 hin.2.1]
    exact psame8_any y (Rp.only y.k y.id) rows [] gone [] B W (hin.below hW hB) ⟨RowsIn.nil, PansIn.nil⟩ (Nat.le_trans hB hW.size) yok ⟨yok.1, yok.2.1, lt16, lt64, lt64, lt64, lt64, lt64, lt64⟩ yn ym le0 le0
  have HS := Lib.hid S0
  clear hY yok yn ym hin hx hB S0 hyk hyi
  obtain ⟨b, hb⟩ : ∃ b, y.bare = b := ⟨_, rfl⟩
  rw [hb] at SM ⊢
  clear hb
  obtain ⟨k, id, code, last, ep, fl, un, le, st, ti, A, n, c, G, m, d⟩ := x
  obtain ⟨k', id', code', last', ep', fl', un', le', st', ti', A', n', c', G', m', d'⟩ := y
  unfold Rp.V.val Rp.only at *
  unfold Rp.V.cells at *
  dsimp only at *
  go_enter Tryz.func42, Tryz.ntmps42
  go_wp2_with fail
  refine (V0.out _ HS.out).mono ?_
  rintro e w1 ⟨rfl, h1⟩
  obtain ⟨y0, y1, y2, y3, y4, y5, y6, y7, y8, y9, y10, y11⟩ := (rep_cells (Y := ⟨k', id', code', last', ep', fl', un', le', st', ti', A', n', c', G', m', d'⟩) h1.top).1
  have H1 := Lib.hid h1.1
  clear h1
  go_wp2_with fail
  refine (SM.out _ H1.out).mono ?_
  rintro e w2 ⟨rfl, b2⟩
  have H2 := Lib.hid (below_next H1.out b2)
  clear b2
  go_wp2_with fail
  go_ret
  exact ⟨rfl, H2.out⟩
end Go.Proofs.YtognlgklepgemaaGreat
