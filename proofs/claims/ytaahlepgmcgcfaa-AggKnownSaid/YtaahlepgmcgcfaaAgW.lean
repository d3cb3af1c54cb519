/- Stage 5's statements: the chapter's examples. -/
import Derived.Test.YtaahlepgmcgcfaaAgE
import Derived.Test.YtaahlepgmcgcfaaAgJ
import Derived.Test.YtaahlepgmcgcfaaHeld
import Derived.Deep.DeepCutAuto
namespace Go.Proofs.Ytaahlepgmcgcfaa
open Go.ChangeShapes Go.WideShapes Go.ChangeAt Go.RowKit

def mkRow (k : ByteArray) (s e : Int) : Rw := ⟨⟨k, s, e⟩, ⟨1, 0, 0, 0⟩⟩
set_option maxHeartbeats 1000000 in
theorem row_any (k : ByteArray) (s e : Int) (w : World) : Calls Try.prog 26 #[.string k, .int .i64 s, .int .i64 e] w fun x w' => x = .returned (rowV (mkRow k s e)) ∧ Below w.heap.size w w' := by
  have hbe : ∀ o, Below w.heap.size w (w.alloc o) := fun o => (Below.refl _ _).alloc (Nat.le_refl _) _
  have HB := Lib.hid hbe
  clear hbe
  go_enter Try.func26, Try.ntmps26
  go_wp2_with fail
  refine bodyPost_ret (v := rowV (mkRow k s e)) ?_ rfl ⟨rfl, ?_⟩
  · simp [results, Try.results26, go_sem, rowV, mkRow]
  · exact HB.out _
theorem rows_lit (W : World) (l : List Rw) (n g : Nat) (cs : Array Value) (hc : cs = (rcells l).toArray) (hl : l.length = n) (hg : g = W.heap.size) : RowsIn (W.alloc (.cells cs 35)) (W.heap.size + 1) (some ⟨g, 0, none⟩) n l := by
  subst hc hg
  refine RowsIn.of_blk ⟨_, Blk.new W _ _, fun i hi j hj => ?_⟩ hl (by omega)
  rw [← rcells_at l i j hi hj]
  simp
def R0 : Rw := mkRow ⟨#[97]⟩ 0 10
def R1 : Rw := mkRow ⟨#[97]⟩ 5 9
def R2 : Rw := mkRow ⟨#[98]⟩ 0 1
theorem sort_first : srt (rord false) [R0, R1, R2] 3 = [R1, R0, R2] := by rfl
theorem sort_second : srt (rord true) [R0, R1, R2] 3 = [R2, R1, R0] := by rfl
theorem one_ok : aggOk (Ag.one 9223372036854775807) := ⟨⟨by decide, by decide⟩, ⟨by decide, by decide⟩, ⟨by decide, by decide⟩, ⟨by decide, by decide⟩⟩
theorem two_ok : aggOk ⟨2, 2, -1, 3⟩ := ⟨⟨by decide, by decide⟩, ⟨by decide, by decide⟩, ⟨by decide, by decide⟩, ⟨by decide, by decide⟩⟩
theorem none_ok : aggOk Ag.none' := ⟨⟨by decide, by decide⟩, ⟨by decide, by decide⟩, ⟨by decide, by decide⟩, ⟨by decide, by decide⟩⟩
theorem five_ok : aggOk (Ag.one 5) := ⟨⟨by decide, by decide⟩, ⟨by decide, by decide⟩, ⟨by decide, by decide⟩, ⟨by decide, by decide⟩⟩
theorem join_is {w : World} {e : Ending} {w' : World} (h : AggE w (Ag.join [⟨2, 2, -1, 3⟩, Ag.none', Ag.one 5]) e w') : Below w.heap.size w w' ∧ e = .returned (.tuple #[aggV ⟨3, 7, -1, 5⟩, .int .i64 0]) := h
theorem agg_lit (W : World) (a b c : Ag.A) (ha : aggOk a) (hb : aggOk b) (hc : aggOk c) (cs : Array Value) (h : cs = (acells [a, b, c]).toArray) (g : Nat) (hg : g = W.heap.size) : Aggs (W.alloc (.cells cs 33)) (W.heap.size + 1) (some ⟨g, 0, none⟩) 3 [a, b, c] := by
  subst h hg
  refine ⟨rfl, by simp; exact ⟨ha, hb, hc⟩, fun _ => ⟨W.heap.size, 0, rfl, by omega, fun i hi => ?_⟩⟩
  have hk := Blk.new W 33 (acells [a, b, c]).toArray
  obtain ⟨e1, e2, e3, e4⟩ := acells_at [a, b, c] i hi
  rw [Nat.zero_add, hk.cell, hk.cell, hk.cell, hk.cell]
  simp only [List.getElem?_toArray]
  exact ⟨e1, e2, e3, e4⟩
theorem Aggs.alloc' {w : World} {B n : Nat} {A : Option Addr} {l : List Ag.A} (h : Aggs w B A n l) (hB : B ≤ w.heap.size) (o : Obj) : Aggs (w.alloc o) B A n l := h.keep fun b f hp => World.cell?_alloc_lt w o ⟨b, f, none⟩ (by show b < w.heap.size; omega)
theorem two_made (w : World) (o : Obj) (T : TypeId) : Blk ((w.alloc o).alloc (.cells #[.int .i64 0, .int .i64 0, .int .i64 0, .int .i64 0] T)) (w.heap.size + 1) T #[.int .i64 0, .int .i64 0, .int .i64 0, .int .i64 0] := by
  have := Blk.new (w.alloc o) T #[.int .i64 0, .int .i64 0, .int .i64 0, .int .i64 0]
  rw [World.size_alloc] at this
  exact this
theorem same_true (n c c2 B : Nat) (A A2 : Option Addr) (l : List Rw) (w : World) (h : RowsIn w B A n l) (h2 : RowsIn w B A2 n l) (hn : n ≤ 1000) :
    Calls Try.prog 17 #[.slice A n c, .slice A2 n c2] w fun e w' => e = .returned (.bool true) ∧ Below w.heap.size w w' := by
  refine (same_any n c n c2 B A A2 l l w h h2 hn hn).mono ?_
  rintro e w' ⟨rfl, hd⟩
  obtain ⟨m, rfl⟩ := hd
  exact ⟨by rw [(rsame_iff l l).2 rfl], (below_drewN (Below.refl _ _) m)⟩
/-- What stands behind the third of the chapter's calls: three aggregates, in memory of the call's own. -/
def CutW (w : World) (ga : Nat) (p q : Value) (wx : World) : Prop := ∃ g, p = .pointer (some ⟨g, 0, none⟩) ∧ q = .int .i64 0 ∧ Held w wx [(g, 33, #[.int .i64 3, .int .i64 7, .int .i64 (-1), .int .i64 5]), (ga, 33, #[.int .i64 3, .int .i64 7, .int .i64 (-1), .int .i64 5]), (w.heap.size, 33, #[.int .i64 3, .int .i64 7, .int .i64 (-1), .int .i64 5])]
theorem Held.four {w W W1 : World} {l : List (Nat × TypeId × Array Value)} {g T : Nat} {x0 x1 x2 x3 : Value} (h : Held w W l) (b : Below W.heap.size W W1) (k : Blk W1 g T #[x0, x1, x2, x3]) (hg : W.heap.size ≤ g) (y0 y1 y2 y3 : Value) : Held w ((((W1.setCell ⟨g, 0, none⟩ y0).setCell ⟨g, 1, none⟩ y1).setCell ⟨g, 2, none⟩ y2).setCell ⟨g, 3, none⟩ y3) ((g, T, #[y0, y1, y2, y3]) :: l) := by
  have h1 := h.step (below_four' b hg y0 y1 y2 y3)
  refine ⟨h1.1, fun x hx => ?_⟩
  rcases List.mem_cons.1 hx with rfl | hx
  · exact blk_four k _ _ _ _
  · exact h1.2 x hx
theorem lit_cells : (#[.int .i64 2, .int .i64 2, .int .i64 (-1), .int .i64 3, .int .i64 0, .int .i64 0, .int .i64 0, .int .i64 0, .int .i64 1, .int .i64 5, .int .i64 5, .int .i64 5] : Array Value) = (acells [⟨2, 2, -1, 3⟩, Ag.none', Ag.one 5]).toArray := by simp [acells, aggL, Ag.none', Ag.one]
set_option maxRecDepth 100000 in
set_option maxHeartbeats 4000000 in
theorem works_any (w : World) : Calls Try.prog 7 #[] w fun e w' => e = .returned (.bool true) ∧ Below w.heap.size w w' := by
  have h1 := ((Held.start w).new #[.int .i64 3, .int .i64 7, .int .i64 (-1), .int .i64 5] 33)
  have i1 := ints_three (w.alloc (.cells #[.int .i64 3, .int .i64 7, .int .i64 (-1), .int .i64 5] 33)) 2 3 (-1) 5 (by decide) (by decide) (by decide) (w.heap.size + 1) (by simp)
  have h2 := (h1.new #[.int .i64 3, .int .i64 (-1), .int .i64 5] 2).drop
  obtain ⟨W1, hW1⟩ : ∃ W1, (w.alloc (.cells #[.int .i64 3, .int .i64 7, .int .i64 (-1), .int .i64 5] 33)).alloc (.cells #[.int .i64 3, .int .i64 (-1), .int .i64 5] 2) = W1 := ⟨_, rfl⟩
  have hz1 : W1.heap.size = w.heap.size + 2 := by rw [← hW1]; simp
  rw [hW1] at h2 i1
  rw [World.size_alloc] at i1
  have H2 := Lib.hid (And.intro h2 (And.intro i1 hz1))
  clear h1 h2 i1 hz1
  go_enter Try.func7, Try.ntmps7
  go_wp2_with fail
  clear hW1
  refine (all_any 3 3 _ _ [3, -1, 5] W1 H2.out.2.1 (by rw [H2.out.2.2]; omega) (by omega)).mono ?_
  intro e w1 hp
  obtain ⟨b1, rfl⟩ : Below W1.heap.size W1 w1 ∧ e = .returned (.tuple #[aggV ⟨3, 7, -1, 5⟩, .int .i64 0]) := hp
  unfold aggV
  have H3 := Lib.hid ((H2.out.1.step b1).new #[.int .i64 3, .int .i64 7, .int .i64 (-1), .int .i64 5] 33)
  clear b1
  obtain ⟨W2, hW2⟩ : ∃ W2, w1.alloc (.cells #[.int .i64 3, .int .i64 7, .int .i64 (-1), .int .i64 5] 33) = W2 := ⟨_, rfl⟩
  rw [hW2] at H3
  go_wp2_with fail
  clear hW2
  refine (one_any 9223372036854775807 W2).mono ?_
  rintro e w2 ⟨rfl, b2⟩
  have H4 := Lib.hid (H3.out.step b2)
  clear b2
  unfold aggV Ag.one
  go_wp2_with fail
  refine (put_any (Ag.one 9223372036854775807) 1 w2 one_ok ⟨by decide, by decide⟩).mono ?_
  intro e w3 hp
  obtain ⟨b3, rfl⟩ : Below w2.heap.size w2 w3 ∧ e = .returned (.tuple #[aggV (Ag.one 9223372036854775807), .int .i64 30]) := hp
  unfold aggV Ag.one
  have H5 := Lib.hid ((H4.out.step b3).step ((Below.refl _ _).alloc (Nat.le_refl _) (.cells #[.int .i64 1, .int .i64 9223372036854775807, .int .i64 9223372036854775807, .int .i64 9223372036854775807] 33)))
  have i3 := ints_two (w3.alloc (.cells #[.int .i64 1, .int .i64 9223372036854775807, .int .i64 9223372036854775807, .int .i64 9223372036854775807] 33)) 2 3 (-1) (by decide) (by decide)
  clear b3
  obtain ⟨W3, hW3⟩ : ∃ W3, (w3.alloc (.cells #[.int .i64 1, .int .i64 9223372036854775807, .int .i64 9223372036854775807, .int .i64 9223372036854775807] 33)) = W3 := ⟨_, rfl⟩
  rw [hW3] at H5 i3
  have I3 := Lib.hid i3
  clear i3
  go_wp2_with fail
  clear hW3
  refine (all_any 2 2 _ _ [3, -1] _ I3.out (by simp) (by omega)).mono ?_
  intro e w4 hp
  obtain ⟨b4, rfl⟩ : Below (W3.alloc (.cells #[.int .i64 3, .int .i64 (-1)] 2)).heap.size (W3.alloc (.cells #[.int .i64 3, .int .i64 (-1)] 2)) w4 ∧ e = .returned (.tuple #[aggV ⟨2, 2, -1, 3⟩, .int .i64 0]) := hp
  unfold aggV
  have h6 := (H5.out.step ((Below.refl W3.heap.size W3).alloc (Nat.le_refl _) (.cells #[.int .i64 3, .int .i64 (-1)] 2))).step b4
  have H6 := Lib.hid (h6.new #[.int .i64 2, .int .i64 2, .int .i64 (-1), .int .i64 3] 33)
  clear b4 h6
  obtain ⟨W4, hW4⟩ : ∃ W4, (w4.alloc (.cells #[.int .i64 2, .int .i64 2, .int .i64 (-1), .int .i64 3] 33)) = W4 := ⟨_, rfl⟩
  rw [hW4] at H6
  have hk4 := H6.out.top
  have p0 := hk4.cell 0
  have p1 := hk4.cell 1
  have p2 := hk4.cell 2
  have p3 := hk4.cell 3
  have HK4 := Lib.hid hk4
  have D0 : Hid (Below W4.heap.size W4 W4.drew) := Lib.hid (Below.refl _ _).drew
  have P4 : Hid (∀ W, Below W4.heap.size W4 W → W.cell? ⟨w4.heap.size, 0, none⟩ = some (.int .i64 2) ∧ W.cell? ⟨w4.heap.size, 1, none⟩ = some (.int .i64 2) ∧ W.cell? ⟨w4.heap.size, 2, none⟩ = some (.int .i64 (-1)) ∧ W.cell? ⟨w4.heap.size, 3, none⟩ = some (.int .i64 3)) := Lib.hid fun W hW => by
    have hk := HK4.out.below hW HK4.out.lt
    exact ⟨hk.cell 0, hk.cell 1, hk.cell 2, hk.cell 3⟩
  clear hk4
  go_upto_region 5 with (fail)
  clear hW4 p0 p1 p2 p3
  go_cut [8, 9, 29, 30, 31, 32, 33, 34, 35, 36] (fun p q _ _ _ _ _ _ _ _ wx => CutW w w1.heap.size p q wx)
  case first =>
    have DD : Hid (Below W4.heap.size W4 (W4.alloc (.cells #[.int .i64 0, .int .i64 0, .int .i64 0, .int .i64 0] 33)).drew) := Lib.hid ((Below.refl _ _).alloc (Nat.le_refl _) _).drew
    have BD : Hid (Blk (W4.alloc (.cells #[.int .i64 0, .int .i64 0, .int .i64 0, .int .i64 0] 33)).drew W4.heap.size 33 #[.int .i64 0, .int .i64 0, .int .i64 0, .int .i64 0]) := Lib.hid (Blk.new W4 _ _)
    go_region_held3 (fun W => W.cell? ⟨w4.heap.size, 0, none⟩ = some (.int .i64 2) ∧ W.cell? ⟨w4.heap.size, 1, none⟩ = some (.int .i64 2) ∧ W.cell? ⟨w4.heap.size, 2, none⟩ = some (.int .i64 (-1)) ∧ W.cell? ⟨w4.heap.size, 3, none⟩ = some (.int .i64 3)) (first | with_reducible exact P4.out _ D0.out | with_reducible exact P4.out _ D1.out | with_reducible exact P4.out _ DA.out | with_reducible exact P4.out _ DB.out | with_reducible exact P4.out _ DC.out | with_reducible exact P4.out _ DCC.out | with_reducible exact P4.out _ DD.out | with_reducible exact P4.out _ DE.out | with_reducible exact P4.out _ DEE.out | with_reducible exact P4.out _ D2.out | with_reducible exact P4.out _ (below_four' D2.out GB.out _ _ _ _) | with_reducible exact P4.out _ (D2.out.alloc D2.out.size _) | fail) (first
      | (go_at_call 25; (with_reducible refine (one_any 5 W4.drew).mono ?_); rintro e w5 ⟨rfl, b5⟩; unfold aggV Ag.one; have D1 := Lib.hid (below_next D0.out b5); have DA := Lib.hid (D1.out.alloc D1.out.size (.cells #[.int .i64 2, .int .i64 2, .int .i64 (-1), .int .i64 3, .int .i64 0, .int .i64 0, .int .i64 0, .int .i64 0, .int .i64 1, .int .i64 5, .int .i64 5, .int .i64 5] 33)); have DB := Lib.hid (DA.out.alloc DA.out.size (.cells #[.int .i64 0, .int .i64 0, .int .i64 0, .int .i64 0] 33)); have DC := Lib.hid (D1.out.alloc D1.out.size (.cells #[.int .i64 0, .int .i64 0, .int .i64 0, .int .i64 0] 33)); have DCC := Lib.hid (DC.out.alloc DC.out.size (.cells #[.int .i64 2, .int .i64 2, .int .i64 (-1), .int .i64 3, .int .i64 0, .int .i64 0, .int .i64 0, .int .i64 0, .int .i64 1, .int .i64 5, .int .i64 5, .int .i64 5] 33)); have AA := Lib.hid (agg_lit w5 _ _ _ two_ok none_ok five_ok _ lit_cells _ rfl); have AC := Lib.hid (agg_lit (w5.alloc (.cells #[.int .i64 0, .int .i64 0, .int .i64 0, .int .i64 0] 33)) _ _ _ two_ok none_ok five_ok _ lit_cells (w5.heap.size + 1) (by simp)); have BB := Lib.hid (two_made w5 (.cells #[.int .i64 2, .int .i64 2, .int .i64 (-1), .int .i64 3, .int .i64 0, .int .i64 0, .int .i64 0, .int .i64 0, .int .i64 1, .int .i64 5, .int .i64 5, .int .i64 5] 33) 33); have BC := Lib.hid ((Blk.new w5 33 #[.int .i64 0, .int .i64 0, .int .i64 0, .int .i64 0]).below ((Below.refl _ _).alloc (Nat.le_refl _) (.cells #[.int .i64 2, .int .i64 2, .int .i64 (-1), .int .i64 3, .int .i64 0, .int .i64 0, .int .i64 0, .int .i64 0, .int .i64 1, .int .i64 5, .int .i64 5, .int .i64 5] 33)) (by simp)); clear b5)
      | (go_at_call 25; (with_reducible refine (one_any 5 (W4.alloc (.cells #[.int .i64 0, .int .i64 0, .int .i64 0, .int .i64 0] 33)).drew).mono ?_); rintro e w5 ⟨rfl, b5⟩; unfold aggV Ag.one; have DE := Lib.hid (below_next DD.out b5); have DEE := Lib.hid (DE.out.alloc DE.out.size (.cells #[.int .i64 2, .int .i64 2, .int .i64 (-1), .int .i64 3, .int .i64 0, .int .i64 0, .int .i64 0, .int .i64 0, .int .i64 1, .int .i64 5, .int .i64 5, .int .i64 5] 33)); have AE := Lib.hid (agg_lit w5 _ _ _ two_ok none_ok five_ok _ lit_cells _ rfl); have BE0 := Lib.hid (BD.out.below b5 BD.out.lt); have BE := Lib.hid (BE0.out.below ((Below.refl _ _).alloc (Nat.le_refl _) (.cells #[.int .i64 2, .int .i64 2, .int .i64 (-1), .int .i64 3, .int .i64 0, .int .i64 0, .int .i64 0, .int .i64 0, .int .i64 1, .int .i64 5, .int .i64 5, .int .i64 5] 33)) BE0.out.lt); clear b5)
      | (go_at_call 21; (with_reducible refine (join_any 3 3 _ _ _ _ AA.out (by simp) (by omega)).mono ?_); intro e w6 hp; obtain ⟨b6, rfl⟩ := join_is hp; unfold aggV; have D2 := Lib.hid (DA.out.trans (b6.mono DA.out.size)); clear b6 hp)
      | (go_at_call 21; (with_reducible refine (join_any 3 3 _ _ _ _ (AA.out.alloc' (by simp) (.cells #[.int .i64 0, .int .i64 0, .int .i64 0, .int .i64 0] 33)) (by simp) (by omega)).mono ?_); intro e w6 hp; obtain ⟨b6, rfl⟩ := join_is hp; unfold aggV; have D2 := Lib.hid (DB.out.trans (b6.mono DB.out.size)); have K2 := Lib.hid (Blk.below BB.out b6 (by simp)); have kc0 := K2.out.cell 0; have kc1 := K2.out.cell 1; have kc2 := K2.out.cell 2; have kc3 := K2.out.cell 3; have kf0 := K2.out.frozen 0; have kf1 := K2.out.frozen 1; have kf2 := K2.out.frozen 2; have kf3 := K2.out.frozen 3; have GB : Hid (W4.heap.size ≤ w5.heap.size + 1) := Lib.hid (by have := D1.out.size; omega); clear b6 hp)
      | (go_at_call 21; (with_reducible refine (join_any 3 3 _ _ _ _ AC.out (by simp) (by omega)).mono ?_); intro e w6 hp; obtain ⟨b6, rfl⟩ := join_is hp; unfold aggV; have D2 := Lib.hid (DCC.out.trans (b6.mono DCC.out.size)); have K2 := Lib.hid (Blk.below BC.out b6 (by simp; omega)); have kc0 := K2.out.cell 0; have kc1 := K2.out.cell 1; have kc2 := K2.out.cell 2; have kc3 := K2.out.cell 3; have kf0 := K2.out.frozen 0; have kf1 := K2.out.frozen 1; have kf2 := K2.out.frozen 2; have kf3 := K2.out.frozen 3; have GB : Hid (W4.heap.size ≤ w5.heap.size) := Lib.hid D1.out.size; clear b6 hp)
      | (go_at_call 21; (with_reducible refine (join_any 3 3 _ _ _ _ AE.out (by simp) (by omega)).mono ?_); intro e w6 hp; obtain ⟨b6, rfl⟩ := join_is hp; unfold aggV; have D2 := Lib.hid (DEE.out.trans (b6.mono DEE.out.size)); have K2 := Lib.hid (Blk.below BE.out b6 (by have := BE0.out.lt; simp; omega)); have kc0 := K2.out.cell 0; have kc1 := K2.out.cell 1; have kc2 := K2.out.cell 2; have kc3 := K2.out.cell 3; have kf0 := K2.out.frozen 0; have kf1 := K2.out.frozen 1; have kf2 := K2.out.frozen 2; have kf3 := K2.out.frozen 3; have GB : Hid (W4.heap.size ≤ W4.heap.size) := Lib.hid (Nat.le_refl _); clear b6 hp))
    all_goals (go_wp2_with fail)
    all_goals go_meet
    all_goals (first | exact ⟨_, rfl, rfl, (H6.out.drop.step D2.out).new _ _⟩ | exact ⟨_, rfl, rfl, H6.out.drop.four D2.out K2.out GB.out _ _ _ _⟩)
  case rest =>
    obtain ⟨g, rfl, rfl, h5⟩ := hcut
    have H7 := Lib.hid h5
    clear h5
    clear H6 P4 HK4 D0
    go_wp2_with fail
    refine (row_any ⟨#[97]⟩ 0 10 _).mono ?_
    rintro e w6 ⟨rfl, b6⟩
    unfold rowV mkRow
    have H8 := Lib.hid (H7.out.step b6)
    clear b6 H7
    go_wp2_with fail
    refine (row_any ⟨#[97]⟩ 5 9 _).mono ?_
    rintro e w7 ⟨rfl, b7⟩
    unfold rowV mkRow
    have H9 := Lib.hid (H8.out.step b7)
    clear b7 H8
    go_wp2_with fail
    refine (row_any ⟨#[98]⟩ 0 1 _).mono ?_
    rintro e w8 ⟨rfl, b8⟩
    unfold rowV mkRow
    have h10 := (H9.out.step b8).step ((Below.refl _ _).alloc (Nat.le_refl _) (.cells #[.string ⟨#[97]⟩, .int .i64 0, .int .i64 10, .int .i64 1, .int .i64 0, .int .i64 0, .int .i64 0, .string ⟨#[97]⟩, .int .i64 5, .int .i64 9, .int .i64 1, .int .i64 0, .int .i64 0, .int .i64 0, .string ⟨#[98]⟩, .int .i64 0, .int .i64 1, .int .i64 1, .int .i64 0, .int .i64 0, .int .i64 0] 35))
    have r10 := rows_lit w8 [R0, R1, R2] 3 _ #[.string ⟨#[97]⟩, .int .i64 0, .int .i64 10, .int .i64 1, .int .i64 0, .int .i64 0, .int .i64 0, .string ⟨#[97]⟩, .int .i64 5, .int .i64 9, .int .i64 1, .int .i64 0, .int .i64 0, .int .i64 0, .string ⟨#[98]⟩, .int .i64 0, .int .i64 1, .int .i64 1, .int .i64 0, .int .i64 0, .int .i64 0] rfl rfl rfl
    clear b8 H9
    obtain ⟨W9, hW9⟩ : ∃ W9, w8.alloc (.cells #[.string ⟨#[97]⟩, .int .i64 0, .int .i64 10, .int .i64 1, .int .i64 0, .int .i64 0, .int .i64 0, .string ⟨#[97]⟩, .int .i64 5, .int .i64 9, .int .i64 1, .int .i64 0, .int .i64 0, .int .i64 0, .string ⟨#[98]⟩, .int .i64 0, .int .i64 1, .int .i64 1, .int .i64 0, .int .i64 0, .int .i64 0] 35) = W9 := ⟨_, rfl⟩
    rw [hW9] at h10 r10
    have z9 : w8.heap.size + 1 ≤ W9.heap.size := by rw [← hW9]; simp
    have H10 := Lib.hid (And.intro h10 (And.intro r10 z9))
    clear h10 r10 z9
    go_wp2_with fail
    clear hW9
    refine (sort_any false 3 3 _ _ _ W9 H10.out.2.1 H10.out.2.2 (by omega)).mono ?_
    rintro e w10 ⟨A1, c1, rfl, hc1, hr1, b10⟩
    have h11 := H10.out.1.step b10
    have r11 := H10.out.2.1.below b10 H10.out.2.2
    have z10 : w8.heap.size + 1 ≤ w10.heap.size := Nat.le_trans H10.out.2.2 b10.size
    obtain ⟨g1, rfl, hg1, hx1⟩ := hr1 (by omega)
    rw [sort_first] at hx1
    have H11 := Lib.hid (And.intro h11 (And.intro r11 (And.intro z10 (And.intro hc1 hx1))))
    clear h11 r11 z10 hc1 hx1 H10 b10 hr1 hg1
    go_wp2_with fail
    refine (sort_any true 3 3 _ _ _ w10 H11.out.2.1 H11.out.2.2.1 (by omega)).mono ?_
    rintro e w11 ⟨A2, c2, rfl, hc2, hr2, b11⟩
    have h12 := H11.out.1.step b11
    have r12 := H11.out.2.1.below b11 H11.out.2.2.1
    have z11 : w8.heap.size + 1 ≤ w11.heap.size := Nat.le_trans H11.out.2.2.1 b11.size
    obtain ⟨g2, rfl, hg2, hx2⟩ := hr2 (by omega)
    rw [sort_second] at hx2
    have q1 : RowsIn w11 w11.heap.size (some ⟨g1, 0, none⟩) 3 [R1, R0, R2] := RowsIn.of_blk (H11.out.2.2.2.2.below b11 H11.out.2.2.2.2.lt) rfl (Nat.lt_of_lt_of_le H11.out.2.2.2.2.lt b11.size)
    have q2 : RowsIn w11 w11.heap.size (some ⟨g2, 0, none⟩) 3 [R2, R1, R0] := RowsIn.of_blk hx2 rfl hx2.lt
    have H12 := Lib.hid (And.intro h12 (And.intro r12 (And.intro z11 (And.intro q1 q2))))
    clear h12 r12 z11 hc2 hx2 H11 b11 hr2 hg2 q1 q2
    have P : Hid (∀ W, Below w11.heap.size w11 W → W.cell? ⟨w.heap.size, 0, none⟩ = some (.int .i64 3) ∧ W.cell? ⟨w.heap.size, 1, none⟩ = some (.int .i64 7) ∧ W.cell? ⟨w.heap.size, 2, none⟩ = some (.int .i64 (-1)) ∧ W.cell? ⟨w.heap.size, 3, none⟩ = some (.int .i64 5) ∧ W.cell? ⟨w1.heap.size, 0, none⟩ = some (.int .i64 3) ∧ W.cell? ⟨w1.heap.size, 1, none⟩ = some (.int .i64 7) ∧ W.cell? ⟨w1.heap.size, 2, none⟩ = some (.int .i64 (-1)) ∧ W.cell? ⟨w1.heap.size, 3, none⟩ = some (.int .i64 5) ∧ W.cell? ⟨g, 0, none⟩ = some (.int .i64 3) ∧ W.cell? ⟨g, 1, none⟩ = some (.int .i64 7) ∧ W.cell? ⟨g, 2, none⟩ = some (.int .i64 (-1)) ∧ W.cell? ⟨g, 3, none⟩ = some (.int .i64 5) ∧ W.cell? ⟨w8.heap.size, 0, none⟩ = some (.string ⟨#[97]⟩) ∧ W.cell? ⟨w8.heap.size, 1, none⟩ = some (.int .i64 0) ∧ W.cell? ⟨w8.heap.size, 2, none⟩ = some (.int .i64 10) ∧ W.cell? ⟨w8.heap.size, 3, none⟩ = some (.int .i64 1) ∧ W.cell? ⟨w8.heap.size, 4, none⟩ = some (.int .i64 0) ∧ W.cell? ⟨w8.heap.size, 5, none⟩ = some (.int .i64 0) ∧ W.cell? ⟨w8.heap.size, 6, none⟩ = some (.int .i64 0) ∧ W.cell? ⟨w8.heap.size, 7, none⟩ = some (.string ⟨#[97]⟩) ∧ W.cell? ⟨w8.heap.size, 8, none⟩ = some (.int .i64 5) ∧ W.cell? ⟨w8.heap.size, 9, none⟩ = some (.int .i64 9) ∧ W.cell? ⟨w8.heap.size, 10, none⟩ = some (.int .i64 1) ∧ W.cell? ⟨w8.heap.size, 11, none⟩ = some (.int .i64 0) ∧ W.cell? ⟨w8.heap.size, 12, none⟩ = some (.int .i64 0) ∧ W.cell? ⟨w8.heap.size, 13, none⟩ = some (.int .i64 0) ∧ W.cell? ⟨w8.heap.size, 14, none⟩ = some (.string ⟨#[98]⟩) ∧ W.cell? ⟨w8.heap.size, 15, none⟩ = some (.int .i64 0) ∧ W.cell? ⟨w8.heap.size, 16, none⟩ = some (.int .i64 1) ∧ W.cell? ⟨w8.heap.size, 17, none⟩ = some (.int .i64 1) ∧ W.cell? ⟨w8.heap.size, 18, none⟩ = some (.int .i64 0) ∧ W.cell? ⟨w8.heap.size, 19, none⟩ = some (.int .i64 0) ∧ W.cell? ⟨w8.heap.size, 20, none⟩ = some (.int .i64 0)) := Lib.hid fun W hW => by
      have h := H12.out.1.step hW
      have h1 := h.at_ (List.mem_cons_of_mem _ (List.mem_cons_of_mem _ (List.mem_cons_self ..)))
      have h2 := h.at_ (List.mem_cons_of_mem _ (List.mem_cons_self ..))
      have h3 := h.at_ (List.mem_cons_self ..)
      obtain ⟨b, off, he, _, hc⟩ := (H12.out.2.1.below hW H12.out.2.2.1).2 (by omega)
      cases he
      exact ⟨h1.cell 0, h1.cell 1, h1.cell 2, h1.cell 3, h2.cell 0, h2.cell 1, h2.cell 2, h2.cell 3, h3.cell 0, h3.cell 1, h3.cell 2, h3.cell 3, hc 0 (by omega) 0 (by omega), hc 0 (by omega) 1 (by omega), hc 0 (by omega) 2 (by omega), hc 0 (by omega) 3 (by omega), hc 0 (by omega) 4 (by omega), hc 0 (by omega) 5 (by omega), hc 0 (by omega) 6 (by omega), hc 1 (by omega) 0 (by omega), hc 1 (by omega) 1 (by omega), hc 1 (by omega) 2 (by omega), hc 1 (by omega) 3 (by omega), hc 1 (by omega) 4 (by omega), hc 1 (by omega) 5 (by omega), hc 1 (by omega) 6 (by omega), hc 2 (by omega) 0 (by omega), hc 2 (by omega) 1 (by omega), hc 2 (by omega) 2 (by omega), hc 2 (by omega) 3 (by omega), hc 2 (by omega) 4 (by omega), hc 2 (by omega) 5 (by omega), hc 2 (by omega) 6 (by omega)⟩
    have D0 : Hid (Below w11.heap.size w11 w11.drew) := Lib.hid (Below.refl _ _).drew
    have D1 : Hid (Below w11.heap.size w11 (w11.alloc (.cells #[.string ⟨#[97]⟩, .int .i64 5, .int .i64 9, .int .i64 1, .int .i64 0, .int .i64 0, .int .i64 0, .string ⟨#[97]⟩, .int .i64 0, .int .i64 10, .int .i64 1, .int .i64 0, .int .i64 0, .int .i64 0, .string ⟨#[98]⟩, .int .i64 0, .int .i64 1, .int .i64 1, .int .i64 0, .int .i64 0, .int .i64 0] 35)).drew) := Lib.hid ((Below.refl _ _).alloc (Nat.le_refl _) _).drew
    have L1 : Hid (RowsIn (w11.alloc (.cells #[.string ⟨#[97]⟩, .int .i64 5, .int .i64 9, .int .i64 1, .int .i64 0, .int .i64 0, .int .i64 0, .string ⟨#[97]⟩, .int .i64 0, .int .i64 10, .int .i64 1, .int .i64 0, .int .i64 0, .int .i64 0, .string ⟨#[98]⟩, .int .i64 0, .int .i64 1, .int .i64 1, .int .i64 0, .int .i64 0, .int .i64 0] 35)).drew (w11.heap.size + 1) (some ⟨w11.heap.size, 0, none⟩) 3 [R1, R0, R2]) := Lib.hid (rows_lit w11 [R1, R0, R2] 3 w11.heap.size #[.string ⟨#[97]⟩, .int .i64 5, .int .i64 9, .int .i64 1, .int .i64 0, .int .i64 0, .int .i64 0, .string ⟨#[97]⟩, .int .i64 0, .int .i64 10, .int .i64 1, .int .i64 0, .int .i64 0, .int .i64 0, .string ⟨#[98]⟩, .int .i64 0, .int .i64 1, .int .i64 1, .int .i64 0, .int .i64 0, .int .i64 0] rfl rfl rfl)
    have L2 := Lib.hid (fun W => rows_lit W [R2, R1, R0] 3 W.heap.size #[.string ⟨#[98]⟩, .int .i64 0, .int .i64 1, .int .i64 1, .int .i64 0, .int .i64 0, .int .i64 0, .string ⟨#[97]⟩, .int .i64 5, .int .i64 9, .int .i64 1, .int .i64 0, .int .i64 0, .int .i64 0, .string ⟨#[97]⟩, .int .i64 0, .int .i64 10, .int .i64 1, .int .i64 0, .int .i64 0, .int .i64 0] rfl rfl rfl)
    have F1 : Hid (RowsIn (w11.alloc (.cells #[.string ⟨#[97]⟩, .int .i64 5, .int .i64 9, .int .i64 1, .int .i64 0, .int .i64 0, .int .i64 0, .string ⟨#[97]⟩, .int .i64 0, .int .i64 10, .int .i64 1, .int .i64 0, .int .i64 0, .int .i64 0, .string ⟨#[98]⟩, .int .i64 0, .int .i64 1, .int .i64 1, .int .i64 0, .int .i64 0, .int .i64 0] 35)).drew (w11.heap.size + 1) (some ⟨g1, 0, none⟩) 3 [R1, R0, R2]) := Lib.hid ((H12.out.2.2.2.1.below D1.out (Nat.le_refl _)).more (by simp))
    have F2 : Hid (∀ W, Below w11.heap.size w11 W → RowsIn (W.alloc (.cells #[.string ⟨#[98]⟩, .int .i64 0, .int .i64 1, .int .i64 1, .int .i64 0, .int .i64 0, .int .i64 0, .string ⟨#[97]⟩, .int .i64 5, .int .i64 9, .int .i64 1, .int .i64 0, .int .i64 0, .int .i64 0, .string ⟨#[97]⟩, .int .i64 0, .int .i64 10, .int .i64 1, .int .i64 0, .int .i64 0, .int .i64 0] 35)) (W.heap.size + 1) (some ⟨g2, 0, none⟩) 3 [R2, R1, R0]) := Lib.hid fun W hW => (H12.out.2.2.2.2.below (hW.alloc hW.size _) (Nat.le_refl _)).more (by have := hW.size; omega)
    go_wp2_with fail
    go_region_held3 (fun W => W.cell? ⟨w.heap.size, 0, none⟩ = some (.int .i64 3) ∧ W.cell? ⟨w.heap.size, 1, none⟩ = some (.int .i64 7) ∧ W.cell? ⟨w.heap.size, 2, none⟩ = some (.int .i64 (-1)) ∧ W.cell? ⟨w.heap.size, 3, none⟩ = some (.int .i64 5) ∧ W.cell? ⟨w1.heap.size, 0, none⟩ = some (.int .i64 3) ∧ W.cell? ⟨w1.heap.size, 1, none⟩ = some (.int .i64 7) ∧ W.cell? ⟨w1.heap.size, 2, none⟩ = some (.int .i64 (-1)) ∧ W.cell? ⟨w1.heap.size, 3, none⟩ = some (.int .i64 5) ∧ W.cell? ⟨g, 0, none⟩ = some (.int .i64 3) ∧ W.cell? ⟨g, 1, none⟩ = some (.int .i64 7) ∧ W.cell? ⟨g, 2, none⟩ = some (.int .i64 (-1)) ∧ W.cell? ⟨g, 3, none⟩ = some (.int .i64 5) ∧ W.cell? ⟨w8.heap.size, 0, none⟩ = some (.string ⟨#[97]⟩) ∧ W.cell? ⟨w8.heap.size, 1, none⟩ = some (.int .i64 0) ∧ W.cell? ⟨w8.heap.size, 2, none⟩ = some (.int .i64 10) ∧ W.cell? ⟨w8.heap.size, 3, none⟩ = some (.int .i64 1) ∧ W.cell? ⟨w8.heap.size, 4, none⟩ = some (.int .i64 0) ∧ W.cell? ⟨w8.heap.size, 5, none⟩ = some (.int .i64 0) ∧ W.cell? ⟨w8.heap.size, 6, none⟩ = some (.int .i64 0) ∧ W.cell? ⟨w8.heap.size, 7, none⟩ = some (.string ⟨#[97]⟩) ∧ W.cell? ⟨w8.heap.size, 8, none⟩ = some (.int .i64 5) ∧ W.cell? ⟨w8.heap.size, 9, none⟩ = some (.int .i64 9) ∧ W.cell? ⟨w8.heap.size, 10, none⟩ = some (.int .i64 1) ∧ W.cell? ⟨w8.heap.size, 11, none⟩ = some (.int .i64 0) ∧ W.cell? ⟨w8.heap.size, 12, none⟩ = some (.int .i64 0) ∧ W.cell? ⟨w8.heap.size, 13, none⟩ = some (.int .i64 0) ∧ W.cell? ⟨w8.heap.size, 14, none⟩ = some (.string ⟨#[98]⟩) ∧ W.cell? ⟨w8.heap.size, 15, none⟩ = some (.int .i64 0) ∧ W.cell? ⟨w8.heap.size, 16, none⟩ = some (.int .i64 1) ∧ W.cell? ⟨w8.heap.size, 17, none⟩ = some (.int .i64 1) ∧ W.cell? ⟨w8.heap.size, 18, none⟩ = some (.int .i64 0) ∧ W.cell? ⟨w8.heap.size, 19, none⟩ = some (.int .i64 0) ∧ W.cell? ⟨w8.heap.size, 20, none⟩ = some (.int .i64 0)) (first | with_reducible exact P.out _ D0.out | with_reducible exact P.out _ D1.out | with_reducible exact P.out _ D2.out | with_reducible exact P.out _ (D2.out.alloc D2.out.size _) | with_reducible exact P.out _ D4.out | fail) (first
      | (go_at_call 17; have _ := D2; (with_reducible refine (same_true 3 c2 3 _ _ _ _ _ (F2.out _ D2.out) (L2.out _) (by omega)).mono ?_); rintro e w13 ⟨rfl, b13⟩; have D4 := Lib.hid ((D2.out.alloc D2.out.size (.cells #[.string ⟨#[98]⟩, .int .i64 0, .int .i64 1, .int .i64 1, .int .i64 0, .int .i64 0, .int .i64 0, .string ⟨#[97]⟩, .int .i64 5, .int .i64 9, .int .i64 1, .int .i64 0, .int .i64 0, .int .i64 0, .string ⟨#[97]⟩, .int .i64 0, .int .i64 10, .int .i64 1, .int .i64 0, .int .i64 0, .int .i64 0] 35)).trans (b13.mono (D2.out.alloc D2.out.size (.cells #[.string ⟨#[98]⟩, .int .i64 0, .int .i64 1, .int .i64 1, .int .i64 0, .int .i64 0, .int .i64 0, .string ⟨#[97]⟩, .int .i64 5, .int .i64 9, .int .i64 1, .int .i64 0, .int .i64 0, .int .i64 0, .string ⟨#[97]⟩, .int .i64 0, .int .i64 10, .int .i64 1, .int .i64 0, .int .i64 0, .int .i64 0] 35)).size)); clear b13)
      | (go_at_call 17; (with_reducible refine (same_true 3 c1 3 _ _ _ _ _ F1.out L1.out (by omega)).mono ?_); rintro e w12 ⟨rfl, b12⟩; have D2 := Lib.hid (D1.out.trans (b12.mono D1.out.size)); clear b12))
    go_wp2_with fail
    go_ret
    exact ⟨rfl, (H12.out.1.step D4.out).1⟩
end Go.Proofs.Ytaahlepgmcgcfaa
