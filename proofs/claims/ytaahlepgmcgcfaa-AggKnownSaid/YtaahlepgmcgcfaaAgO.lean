/- Layer 5, the program: panes compared. -/
import Derived.Test.YtaahlepgmcgcfaaRefPn
import Derived.Test.YtaahlepgmcgcfaaCmp
import Derived.Test.YtaahlepgmcgcfaaCmpOr
namespace Go.Proofs.Ytaahlepgmcgcfaa
open Go.ChangeShapes Go.WideShapes Go.ChangeAt Go.RowKit

theorem prim_nz (p q : Pn) : nz [Ky.cmp (nums p.k) (nums q.k), icmp p.e q.e, icmp p.s q.s] = prim p q := by
  unfold prim
  simp only [nz]
  by_cases h : icmp p.s q.s = 0
  · simp [h]
  · simp [h]
theorem sec_nz (p q : Pn) : nz [icmp p.e q.e, Ky.cmp (nums p.k) (nums q.k), icmp p.s q.s] = sec p q := by
  unfold sec prim
  simp only [nz]
  by_cases h : icmp p.s q.s = 0
  · by_cases h2 : icmp p.e q.e = 0 <;> simp [h, h2]
  · by_cases h2 : icmp p.e q.e = 0 <;> simp [h, h2]
theorem icmp_bd (a b : Int) : -9223372036854775808 ≤ icmp a b ∧ icmp a b ≤ 9223372036854775807 := by
  unfold icmp
  split
  · decide
  · split <;> decide
theorem kcmp_bd (a b : List Nat) : -9223372036854775808 ≤ Ky.cmp a b ∧ Ky.cmp a b ≤ 9223372036854775807 := by
  rcases Ky.cmp_three a b with h | h | h <;> rw [h] <;> decide
theorem ints_three (w : World) (t : TypeId) (a b c : Int) (ha : -9223372036854775808 ≤ a ∧ a ≤ 9223372036854775807) (hb : -9223372036854775808 ≤ b ∧ b ≤ 9223372036854775807) (hc : -9223372036854775808 ≤ c ∧ c ≤ 9223372036854775807) (g : Nat) (hg : g = w.heap.size) : Ints (w.alloc (.cells #[.int .i64 a, .int .i64 b, .int .i64 c] t)) (w.heap.size + 1) (some ⟨g, 0, none⟩) 3 [a, b, c] := by
  subst hg
  refine ⟨rfl, by simp; exact ⟨ha, hb, hc⟩, fun _ => ⟨w.heap.size, 0, rfl, by omega, fun i hi => ?_⟩⟩
  rcases (by omega : i = 0 ∨ i = 1 ∨ i = 2) with rfl | rfl | rfl
  · exact (Blk.new w t _).cell 0
  · exact (Blk.new w t _).cell 1
  · exact (Blk.new w t _).cell 2
theorem Ints.drew {w : World} {B n : Nat} {A : Option Addr} {l : List Int} (h : Ints w B A n l) : Ints w.drew B A n l := h
theorem two_pn (w : World) (T : TypeId) (x0 x1 x2 y0 y1 y2 : Value) : ∃ w0, (w.alloc (.cells #[x0, x1, x2] T)).alloc (.cells #[y0, y1, y2] T) = w0 ∧ Blk w0 w.heap.size T #[x0, x1, x2] ∧ Blk w0 (w.heap.size + 1) T #[y0, y1, y2] ∧ Below w.heap.size w w0 ∧ w0.heap.size = w.heap.size + 2 := by
  refine ⟨_, rfl, ?_, ?_, ((Below.refl _ _).alloc (Nat.le_refl _) _).alloc (by simp) _, by simp⟩
  · exact (Blk.new w T _).below ((Below.refl _ _).alloc (Nat.le_refl _) _) (Blk.new w T _).lt
  · have := Blk.new (w.alloc (.cells #[x0, x1, x2] T)) T #[y0, y1, y2]
    rw [World.size_alloc] at this
    exact this
set_option maxRecDepth 100000 in
set_option maxHeartbeats 2000000 in
theorem pprim_any (p q : Pn) (w : World) : Calls Try.prog 12 #[p.val, q.val] w (RetP w (prim p q)) := by
  rw [← prim_nz]
  obtain ⟨k1, s1, e1⟩ := p
  obtain ⟨k2, s2, e2⟩ := q
  unfold Pn.val
  dsimp only
  obtain ⟨w0, hw0, h0⟩ := two_pn w 31 (.string k1) (.int .i64 s1) (.int .i64 e1) (.string k2) (.int .i64 s2) (.int .i64 e2)
  have c0 := h0.1.cell 0
  have c1 := h0.1.cell 1
  have c2 := h0.1.cell 2
  have d0 := h0.2.1.cell 0
  have d1 := h0.2.1.cell 1
  have d2 := h0.2.1.cell 2
  have HZ := Lib.hid h0
  have HC : Hid (∀ W, Below w0.heap.size w0 W → W.cell? ⟨w.heap.size, 0, none⟩ = some (.string k1) ∧ W.cell? ⟨w.heap.size, 1, none⟩ = some (.int .i64 s1) ∧ W.cell? ⟨w.heap.size, 2, none⟩ = some (.int .i64 e1) ∧ W.cell? ⟨w.heap.size + 1, 0, none⟩ = some (.string k2) ∧ W.cell? ⟨w.heap.size + 1, 1, none⟩ = some (.int .i64 s2) ∧ W.cell? ⟨w.heap.size + 1, 2, none⟩ = some (.int .i64 e2)) := Lib.hid fun W hW => by
    have hb := HZ.out.1.below hW (by rw [HZ.out.2.2.2]; omega)
    have hb2 := HZ.out.2.1.below hW (by rw [HZ.out.2.2.2]; omega)
    exact ⟨hb.cell 0, hb.cell 1, hb.cell 2, hb2.cell 0, hb2.cell 1, hb2.cell 2⟩
  obtain ⟨X, hX⟩ : ∃ X, Ky.cmp (nums k1) (nums k2) = X := ⟨_, rfl⟩
  obtain ⟨Y, hY⟩ : ∃ Y, icmp e1 e2 = Y := ⟨_, rfl⟩
  obtain ⟨Z, hZ⟩ : ∃ Z, icmp s1 s2 = Z := ⟨_, rfl⟩
  rw [hX, hY, hZ]
  have EX := Lib.hid (And.intro hX (hX ▸ kcmp_bd (nums k1) (nums k2)))
  have EY := Lib.hid (And.intro (show Ky.cmpI e1 e2 = Y from hY) (hY ▸ icmp_bd e1 e2))
  have EZ := Lib.hid (And.intro (show Ky.cmpI s1 s2 = Z from hZ) (hZ ▸ icmp_bd s1 s2))
  have D0 : Hid (Below w0.heap.size w0 w0.drew) := Lib.hid (Below.refl _ _).drew
  clear h0 hX hY hZ c0 c1 c2 d0 d1 d2
  go_enter Try.func12, Try.ntmps12
  go_wp2_with fail
  clear hw0
  go_region_held3 (fun W => W.cell? ⟨w.heap.size, 0, none⟩ = some (.string k1) ∧ W.cell? ⟨w.heap.size, 1, none⟩ = some (.int .i64 s1) ∧ W.cell? ⟨w.heap.size, 2, none⟩ = some (.int .i64 e1) ∧ W.cell? ⟨w.heap.size + 1, 0, none⟩ = some (.string k2) ∧ W.cell? ⟨w.heap.size + 1, 1, none⟩ = some (.int .i64 s2) ∧ W.cell? ⟨w.heap.size + 1, 2, none⟩ = some (.int .i64 e2)) (first | exact HC.out _ D0.out | exact HC.out _ (D0.out.alloc D0.out.size _) | exact HC.out _ (D0.out.alloc D0.out.size _).drew) (first
    | (go_at_call 29; (refine (orI_any 3 3 _ _ [X, Y, Z] _ (ints_three _ _ _ _ _ EX.out.2 EY.out.2 EZ.out.2 _ (by simp)).drew (by omega)).mono ?_); rintro e w2 ⟨rfl, rfl⟩)
    | (go_at_call 30; (refine (cmp_string k1 k2 _).mono ?_); rintro e w1 ⟨rfl, rfl⟩; rw [EX.out.1])
    | (go_at_call 31; ((with_reducible refine (cmp_int64 e1 e2 _).mono ?_); rintro e w1 ⟨rfl, rfl⟩; rw [EY.out.1]))
    | (go_at_call 31; ((with_reducible refine (cmp_int64 s1 s2 _).mono ?_); rintro e w1 ⟨rfl, rfl⟩; rw [EZ.out.1])))
  go_wp2_with fail
  go_ret
  exact ⟨rfl, HZ.out.2.2.1.trans ((D0.out.alloc D0.out.size _).mono HZ.out.2.2.1.size)⟩
set_option maxRecDepth 100000 in
set_option maxHeartbeats 2000000 in
theorem psec_any (p q : Pn) (w : World) : Calls Try.prog 15 #[p.val, q.val] w (RetP w (sec p q)) := by
  rw [← sec_nz]
  obtain ⟨k1, s1, e1⟩ := p
  obtain ⟨k2, s2, e2⟩ := q
  unfold Pn.val
  dsimp only
  obtain ⟨w0, hw0, h0⟩ := two_pn w 31 (.string k1) (.int .i64 s1) (.int .i64 e1) (.string k2) (.int .i64 s2) (.int .i64 e2)
  have c0 := h0.1.cell 0
  have c1 := h0.1.cell 1
  have c2 := h0.1.cell 2
  have d0 := h0.2.1.cell 0
  have d1 := h0.2.1.cell 1
  have d2 := h0.2.1.cell 2
  have HZ := Lib.hid h0
  have HC : Hid (∀ W, Below w0.heap.size w0 W → W.cell? ⟨w.heap.size, 0, none⟩ = some (.string k1) ∧ W.cell? ⟨w.heap.size, 1, none⟩ = some (.int .i64 s1) ∧ W.cell? ⟨w.heap.size, 2, none⟩ = some (.int .i64 e1) ∧ W.cell? ⟨w.heap.size + 1, 0, none⟩ = some (.string k2) ∧ W.cell? ⟨w.heap.size + 1, 1, none⟩ = some (.int .i64 s2) ∧ W.cell? ⟨w.heap.size + 1, 2, none⟩ = some (.int .i64 e2)) := Lib.hid fun W hW => by
    have hb := HZ.out.1.below hW (by rw [HZ.out.2.2.2]; omega)
    have hb2 := HZ.out.2.1.below hW (by rw [HZ.out.2.2.2]; omega)
    exact ⟨hb.cell 0, hb.cell 1, hb.cell 2, hb2.cell 0, hb2.cell 1, hb2.cell 2⟩
  obtain ⟨X, hX⟩ : ∃ X, Ky.cmp (nums k1) (nums k2) = X := ⟨_, rfl⟩
  obtain ⟨Y, hY⟩ : ∃ Y, icmp e1 e2 = Y := ⟨_, rfl⟩
  obtain ⟨Z, hZ⟩ : ∃ Z, icmp s1 s2 = Z := ⟨_, rfl⟩
  rw [hX, hY, hZ]
  have EX := Lib.hid (And.intro hX (hX ▸ kcmp_bd (nums k1) (nums k2)))
  have EY := Lib.hid (And.intro (show Ky.cmpI e1 e2 = Y from hY) (hY ▸ icmp_bd e1 e2))
  have EZ := Lib.hid (And.intro (show Ky.cmpI s1 s2 = Z from hZ) (hZ ▸ icmp_bd s1 s2))
  have D0 : Hid (Below w0.heap.size w0 w0.drew) := Lib.hid (Below.refl _ _).drew
  clear h0 hX hY hZ c0 c1 c2 d0 d1 d2
  go_enter Try.func15, Try.ntmps15
  go_wp2_with fail
  clear hw0
  go_region_held3 (fun W => W.cell? ⟨w.heap.size, 0, none⟩ = some (.string k1) ∧ W.cell? ⟨w.heap.size, 1, none⟩ = some (.int .i64 s1) ∧ W.cell? ⟨w.heap.size, 2, none⟩ = some (.int .i64 e1) ∧ W.cell? ⟨w.heap.size + 1, 0, none⟩ = some (.string k2) ∧ W.cell? ⟨w.heap.size + 1, 1, none⟩ = some (.int .i64 s2) ∧ W.cell? ⟨w.heap.size + 1, 2, none⟩ = some (.int .i64 e2)) (first | exact HC.out _ D0.out | exact HC.out _ (D0.out.alloc D0.out.size _) | exact HC.out _ (D0.out.alloc D0.out.size _).drew) (first
    | (go_at_call 29; (refine (orI_any 3 3 _ _ [Y, X, Z] _ (ints_three _ _ _ _ _ EY.out.2 EX.out.2 EZ.out.2 _ (by simp)).drew (by omega)).mono ?_); rintro e w2 ⟨rfl, rfl⟩)
    | (go_at_call 30; (refine (cmp_string k1 k2 _).mono ?_); rintro e w1 ⟨rfl, rfl⟩; rw [EX.out.1])
    | (go_at_call 31; ((with_reducible refine (cmp_int64 e1 e2 _).mono ?_); rintro e w1 ⟨rfl, rfl⟩; rw [EY.out.1]))
    | (go_at_call 31; ((with_reducible refine (cmp_int64 s1 s2 _).mono ?_); rintro e w1 ⟨rfl, rfl⟩; rw [EZ.out.1])))
  go_wp2_with fail
  go_ret
  exact ⟨rfl, HZ.out.2.2.1.trans ((D0.out.alloc D0.out.size _).mono HZ.out.2.2.1.size)⟩
end Go.Proofs.Ytaahlepgmcgcfaa
