/- Stage 4's statements: two rows that are the same. -/
import Derived.Test.YtbafbhnnonfkpaaKPuts
namespace Go.Proofs.Ytbafbhnnonfkpaa
open Go.ChangeShapes Go.WideShapes Go.ChangeAt Go.RowKit

set_option maxRecDepth 100000 in
set_option maxHeartbeats 2000000 in
theorem same_true (n c d B : Nat) (A1 A2 : Option Addr) (l : List PT) (w : World) (h1 : Parts w B A1 n l) (h2 : Parts w B A2 n l) (hB : B ≤ w.heap.size) (hn : n ≤ 1000) :
    Calls Try.prog 17 #[.slice A1 n c, .slice A2 n d] w (TrueP w) := by
  have HP := Lib.hid (And.intro h1 h2)
  clear h1 h2
  have hnn : ((n : Int) != (n : Int)) = false := by simp
  go_enter Try.func17, Try.ntmps17
  go_wp2_with fail
  go_loopw [5] (fun i wr => ∃ j : Nat, j ≤ n ∧ i = .int .i64 (j : Int) ∧ Below w.heap.size w wr) (fun i _ => n - (intOf i).toNat)
  case atStart => exact ⟨0, by omega, rfl, Below.refl _ _⟩
  case round =>
    obtain ⟨j, hj, rfl, hbel⟩ := hrel
    by_cases hlt : j < n
    · obtain ⟨b1, o1, rfl, hb1, hc1⟩ := HP.out.1.2.2 (by omega)
      obtain ⟨b2, o2, rfl, hb2, hc2⟩ := HP.out.2.2.2 (by omega)
      obtain ⟨x1, x2, x3⟩ := hc1 j hlt
      obtain ⟨y1, y2, y3⟩ := hc2 j hlt
      generalize l.getD j default = p at x1 x2 x3 y1 y2 y3
      have z1 : b1 < w.heap.size := by omega
      have z2 : b2 < w.heap.size := by omega
      have HC : Hid (∀ W, Below w.heap.size w W → W.cell? ⟨b1, o1 + j * 3, none⟩ = some (.int .u8 (p.k : Int)) ∧ W.cell? ⟨b1, o1 + j * 3 + 1, none⟩ = some (.int .i64 p.n) ∧ W.cell? ⟨b1, o1 + j * 3 + 2, none⟩ = some (.string p.s) ∧ W.cell? ⟨b2, o2 + j * 3, none⟩ = some (.int .u8 (p.k : Int)) ∧ W.cell? ⟨b2, o2 + j * 3 + 1, none⟩ = some (.int .i64 p.n) ∧ W.cell? ⟨b2, o2 + j * 3 + 2, none⟩ = some (.string p.s)) := Lib.hid fun W hW => by
        exact ⟨(hW.cell (p := ⟨b1, _, none⟩) z1).trans x1, (hW.cell (p := ⟨b1, _, none⟩) z1).trans x2, (hW.cell (p := ⟨b1, _, none⟩) z1).trans x3, (hW.cell (p := ⟨b2, _, none⟩) z2).trans y1, (hW.cell (p := ⟨b2, _, none⟩) z2).trans y2, (hW.cell (p := ⟨b2, _, none⟩) z2).trans y3⟩
      have D0 : Below w.heap.size w wr.drew := hbel.drew
      have i1 : (0 : Int) ≤ j := by omega
      have i2 : (j : Int) < n := by omega
      have q1 : ((p.k : Int) != (p.k : Int)) = false := by simp
      have q2 : (p.n != p.n) = false := by simp
      have q3 : (p.s.toList != p.s.toList) = false := by simp
      clear hc1 hc2 x1 x2 x3 y1 y2 y3 hbel
      go_wp2_with fail
      go_region_held3 (fun W => W.cell? ⟨b1, o1 + j * 3, none⟩ = some (.int .u8 (p.k : Int)) ∧ W.cell? ⟨b1, o1 + j * 3 + 1, none⟩ = some (.int .i64 p.n) ∧ W.cell? ⟨b1, o1 + j * 3 + 2, none⟩ = some (.string p.s) ∧ W.cell? ⟨b2, o2 + j * 3, none⟩ = some (.int .u8 (p.k : Int)) ∧ W.cell? ⟨b2, o2 + j * 3 + 1, none⟩ = some (.int .i64 p.n) ∧ W.cell? ⟨b2, o2 + j * 3 + 2, none⟩ = some (.string p.s)) (exact HC.out _ D0) (fail)
      have HD := Lib.hid D0
      clear D0
      go_wp2_with fail
      exact ⟨⟨j + 1, by omega, by go_num, HD.out⟩, by simp [intOf]; omega⟩
    · obtain rfl : n = j := by omega
      go_wp2_with fail
      go_ret
      exact ⟨rfl, hbel⟩
theorem own_set_any {w : World} {base n c g size : Nat} {e : TypeId} {xs : List Value} (h : w.ownsRow base e size (.slice (some ⟨g, 0, none⟩) n c) n xs) (i : Nat) (u : Value) : (w.setCell ⟨g, i, none⟩ u).ownsRow base e size (.slice (some ⟨g, 0, none⟩) n c) n (xs.set i u) := by
  refine ⟨by rw [List.length_set]; exact h.1, ?_⟩
  rcases h.2 with ⟨hv, _⟩ | ⟨g', cap, cur, hv, hb, hh, h1, h2, h3, h4⟩
  · cases hv
  · injection hv with e1 _ e3
    injection e1 with e1
    injection e1 with e1
    subst e1 e3
    refine .inr ⟨g, c, cur.setIfInBounds i u, rfl, hb, Blk.set_ (show Blk w g e cur from hh) i u, h1, h2, by simpa using h3, ?_⟩
    rw [Array.toList_setIfInBounds, List.take_set, h4]
theorem PT_inj {p q : PT} (h : p.to = q.to) : p = q := by
  obtain ⟨k, n, s⟩ := p
  obtain ⟨k', n', s'⟩ := q
  simp only [PT.to, Ky.Part.mk.injEq] at h
  obtain ⟨rfl, rfl, h⟩ := h
  rw [nums_inj h]
theorem tos_inj {a b : List PT} (h : tos a = tos b) : a = b := List.map_inj_right (fun _ _ h => PT_inj h) |>.1 h
/-- A row that the call owns is written over with nothing. -/
theorem own_at {w : World} {base n c g size : Nat} {e : TypeId} {xs : List Value} (h : w.ownsRow base e size (.slice (some ⟨g, 0, none⟩) n c) n xs) (i : Nat) (hi : i < n * size) : ∃ u, w.cell? ⟨g, i, none⟩ = some u := by
  have hl : xs.length = n * size := h.1
  have := h.cells (g := g) rfl i xs[i] (List.getElem?_eq_getElem (by omega))
  rw [add_at, Nat.zero_add] at this
  exact ⟨_, this⟩
end Go.Proofs.Ytbafbhnnonfkpaa
