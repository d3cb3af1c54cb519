/- Layer 14: WindowSpans. -/
import Derived.Test.YtaplmioohihmbaaWnW
import Derived.Deep.RegionHeld3
namespace Go.Proofs.Ytaplmioohihmbaa
open Go.ChangeShapes Go.WideShapes Go.ChangeAt Go.RowKit

theorem rspan_guard : Try.prog.eqGuardType Try.prog.depth 32 = false := by kernel_rfl
theorem rspan_same (a b c d : Int) (w : World) : (Op.equalIn 10000 32 (.agg #[.int .i64 a, .int .i64 b]) (.agg #[.int .i64 c, .int .i64 d])).run Try.prog w = .ok ((a == c) && (b == d)) w := by
  have hS : Try.prog.underlying 32 = some (.struct (Try.prog.fieldsOf 32)) := by kernel_rfl
  have hp : Try.prog.stoodInHeld 32 = false := by kernel_rfl
  rw [show (10000 : Nat) = 9999 + 1 from rfl, run_equalIn_agg w 9999 32 _ _ hS hp]
  simp only [Program.fieldsOf, Try.underlying32]
  go_simp
  (repeat' split) <;> simp_all
/-- The boxes of two spans. -/
theorem span_boxes (w : World) (T T2 : TypeId) (a b c d : Int) : ∃ w0 bx sx, (w.alloc (.cells #[.int .i64 a, .int .i64 b] T)).alloc (.cells #[.int .i64 c, .int .i64 d] T2) = w0 ∧ w.heap.size = bx ∧ bx + 1 = sx ∧ Below w.heap.size w w0 ∧ sx < w0.heap.size ∧ ∀ X, Below w0.heap.size w0 X → X.cell? ⟨bx, 0, none⟩ = some (.int .i64 a) ∧ X.cell? ⟨bx, 1, none⟩ = some (.int .i64 b) ∧ X.cell? ⟨sx, 0, none⟩ = some (.int .i64 c) ∧ X.cell? ⟨sx, 1, none⟩ = some (.int .i64 d) := by
  refine ⟨_, _, _, rfl, rfl, rfl, below_al2 _ _ _, by simp, fun X hX => ?_⟩
  have h : Blk (w.alloc (.cells #[.int .i64 a, .int .i64 b] T)) w.heap.size T _ := Blk.new _ _ _
  have h' := h.below (below_al1 _ (.cells #[.int .i64 c, .int .i64 d] T2)) h.lt
  have hb := h'.below hX h'.lt
  have h2 := Blk.new (w.alloc (.cells #[.int .i64 a, .int .i64 b] T)) T2 #[.int .i64 c, .int .i64 d]
  have e : (w.alloc (.cells #[.int .i64 a, .int .i64 b] T)).heap.size = w.heap.size + 1 := by simp
  rw [e] at h2
  have hb2 := h2.below hX h2.lt
  exact ⟨hb.cell 0, hb.cell 1, hb2.cell 0, hb2.cell 1⟩
set_option maxRecDepth 100000 in
set_option maxHeartbeats 4000000 in
theorem windowSpans_any (a1 a2 b1 b2 t : Int) (F : Nat → Prop) (A : Option Addr) (n c : Nat) (l : List (Int × Int)) (w : World) (h : Cells w F A n 2 (spL l)) (hn : n ≤ 9223372036854775807) :
    Calls Try.prog 4 #[.agg #[.int .i64 a1, .int .i64 a2], .agg #[.int .i64 b1, .int .i64 b2], .int .i64 t, .slice A n c] w (TrueP w) := by
  obtain ⟨w0, bx, sx, hw0, hbx, hsx, hbe, hlt, hc⟩ := span_boxes w 25 25 a1 a2 b1 b2
  obtain ⟨c0, c1, c2, c3⟩ := hc w0 (Below.refl _ _)
  by_cases hbig : 20 < n
  · go_enter Try.func4, Try.ntmps4
    go_wp2_with (go_at_call 16; (with_reducible refine (works_any _).mono ?_); rintro e w5 ⟨rfl, b5⟩)
    go_ret
    exact ⟨rfl, hbe.trans (b5.mono hbe.size)⟩
  have hln : l.length = n := by have := h.1; rw [spL_len] at this; omega
  obtain ⟨i0, hi, hz0, hz1, hz2⟩ := info_parts Try.info32
  have HI := Lib.hid (And.intro hi (And.intro hz0 (And.intro hz1 hz2)))
  have H := Lib.hid (And.intro (h.below hbe) (And.intro hln (And.intro hbe hc)))
  clear h hln hbe hc hi hz0 hz1 hz2
  go_enter Try.func4, Try.ntmps4
  go_wp2_with fail
  go_loopw [9, 10] (fun r i wr => ∃ j : Nat, j ≤ n ∧ i = .int .i64 (j : Int) ∧ wr.ownsRow w0.heap.size 32 2 r j (spL (l.take j)) ∧ Below w0.heap.size w0 wr) (fun _ i _ => n - (intOf i).toNat)
  case atStart => exact ⟨0, by omega, rfl, own_nil _ _ _ _, Below.refl _ _⟩
  case round =>
    obtain ⟨j, hj, rfl, hown, hbel⟩ := hrel
    by_cases hlj : j < n
    · have i1 : (0 : Int) ≤ (j : Int) := by omega
      have i2 : (j : Int) < (n : Int) := by omega
      obtain ⟨x, hx⟩ : ∃ x, l[j]? = some x := ⟨_, List.getElem?_eq_getElem (by rw [H.out.2.1]; exact hlj)⟩
      obtain ⟨b, off, rfl, -, -, z0, z1⟩ := sp_cells (H.out.1.below hbel) hx
      have hst := spL_snoc l j x hx
      have HK := Lib.hid (And.intro hown (And.intro hbel hst))
      clear hown hbel hst hx
      go_wp2_with fail
      refine (span_any x.1 x.2 _).mono ?_
      rintro e w1 ⟨rfl, hb1⟩
      have H1 := Lib.hid (And.intro (own_below HK.out.1 hb1) (HK.out.2.1.trans (hb1.mono HK.out.2.1.size)))
      clear hb1
      go_wp2_with (at_builtin; refine wpList_append_own _ rfl _ _ 28 rfl w0.heap.size 32 i0 _ 2 16 Try.underlying28 HI.out.1 HI.out.2.1 HI.out.2.2.1 HI.out.2.2.2 rfl (by decide) _ j _ rfl (H1.out.1.alloc _) ⟨w1.heap.size, 0, none⟩ 1 1 [.int .i64 x.1, .int .i64 x.2] rfl rfl (cell_two' _ _ _ _ _ rfl) (by simp [Value.oneCell']) (by unfold maxLen; omega) (by omega) (by have := H1.out.2.size; simp; omega) ?_)
      intro v' w2 hown2 hgr2 _
      have hbel2 : Below w0.heap.size w0 w2 := grow_below H1.out.2 hgr2 (fun g' hg' => (H1.out.1.lt g' hg').1)
      have HO := Lib.hid (And.intro hown2 hbel2)
      clear hown2 hgr2 hbel2
      go_wp2_with fail
      refine ⟨⟨j + 1, by omega, by go_num, ?_, HO.out.2⟩, by simp [intOf]; omega⟩
      rw [HK.out.2.2]
      exact HO.out.1
    · obtain rfl : j = n := by omega
      rw [List.take_of_length_le (by rw [H.out.2.1]; exact Nat.le_refl _)] at hown
      obtain ⟨A', c', rfl⟩ := own_slice hown
      have HK := Lib.hid (And.intro hown hbel)
      have htg := Lib.hid (together_any wr F A j c l (H.out.1.below hbel) (by omega))
      clear hown hbel c0 c1 c2 c3
      go_wp2_with fail
      refine htg.out.mono ?_
      rintro e w3 ⟨rfl, hb3⟩
      obtain ⟨x, hx⟩ : ∃ x, Wn.tog l = x := ⟨_, rfl⟩
      rw [hx]
      have HX := Lib.hid hx
      clear hx htg
      go_upto_region 9 with fail
      obtain ⟨w4, hw4⟩ : ∃ w4, w3.alloc (.cells #[.int .i64 x.1, .int .i64 x.2] 25) = w4 := ⟨_, rfl⟩
      obtain ⟨xb, hxb⟩ : ∃ xb, w3.heap.size = xb := ⟨_, rfl⟩
      have D3 : Below w0.heap.size w0 w3 := HK.out.2.trans (hb3.mono HK.out.2.size)
      have D4 : Below w0.heap.size w0 w4 := by rw [← hw4]; exact D3.alloc D3.size _
      have kx : Blk w4 xb 25 #[.int .i64 x.1, .int .i64 x.2] := by rw [← hw4, ← hxb]; exact Blk.new _ _ _
      have o3 := own_below HK.out.1 hb3
      have o4 : w4.ownsRow w0.heap.size 32 2 (.slice A' j c') j (spL l) := by rw [← hw4]; exact o3.alloc _
      have HC : Hid (∀ X, Below w4.heap.size w4 X → X.cell? ⟨bx, 0, none⟩ = some (.int .i64 a1) ∧ X.cell? ⟨bx, 1, none⟩ = some (.int .i64 a2) ∧ X.cell? ⟨sx, 0, none⟩ = some (.int .i64 b1) ∧ X.cell? ⟨sx, 1, none⟩ = some (.int .i64 b2) ∧ X.cell? ⟨xb, 0, none⟩ = some (.int .i64 x.1) ∧ X.cell? ⟨xb, 1, none⟩ = some (.int .i64 x.2)) := Lib.hid fun X hX => by
        obtain ⟨k0, k1, k2, k3⟩ := H.out.2.2.2 X (D4.trans (hX.mono D4.size))
        have k := kx.below hX kx.lt
        exact ⟨k0, k1, k2, k3, k.cell 0, k.cell 1⟩
      have HT : Hid (∀ X, Below w4.heap.size w4 X → Calls Try.prog 22 #[.slice A' j c'] X (ValP X (.agg #[.int .i64 x.1, .int .i64 x.2]))) := Lib.hid fun X hX => by
        have := refTogether_any X (fun _ => True) A' j c' l (((Cells.of_own o4).mono fun _ _ _ => trivial).below hX) (by omega)
        rw [HX.out] at this
        exact this
      have HD := Lib.hid (H.out.2.2.1.trans (D4.mono H.out.2.2.1.size))
      have HHas : Hid (∀ X, Calls Try.prog 18 #[.agg #[.int .i64 a1, .int .i64 a2], .int .i64 t] X (ValP X (.bool (Wn.has (a1, a2) t)))) := Lib.hid fun X => has_any a1 a2 t X
      have HHas2 : Hid (∀ X, Calls Try.prog 19 #[.agg #[.int .i64 a1, .int .i64 a2], .int .i64 t] X (ValP X (.bool (Wn.has (a1, a2) t)))) := Lib.hid fun X => refHas_any a1 a2 t X
      have HOv : Hid (∀ X, Calls Try.prog 20 #[.agg #[.int .i64 a1, .int .i64 a2], .agg #[.int .i64 b1, .int .i64 b2]] X (ValP X (.bool (Wn.over (a1, a2) (b1, b2))))) := Lib.hid fun X => over_any a1 a2 b1 b2 X
      have HOv3 : Hid (∀ X, Calls Try.prog 20 #[.agg #[.int .i64 b1, .int .i64 b2], .agg #[.int .i64 a1, .int .i64 a2]] X (ValP X (.bool (Wn.over (a1, a2) (b1, b2))))) := Lib.hid fun X => by
        rw [Wn.over_comm]
        exact over_any b1 b2 a1 a2 X
      have HOv2 : Hid (∀ X, Calls Try.prog 21 #[.agg #[.int .i64 a1, .int .i64 a2], .agg #[.int .i64 b1, .int .i64 b2]] X (ValP X (.bool (Wn.over (a1, a2) (b1, b2))))) := Lib.hid fun X => refOver_any a1 a2 b1 b2 X
      generalize Wn.has (a1, a2) t = q at HHas HHas2
      generalize Wn.over (a1, a2) (b1, b2) = r at HOv HOv2 HOv3
      have gg := rspan_guard
      have hq := fun a b c d W => rspan_same a b c d W
      have D : Hid (Below w4.heap.size w4 w4.drew) := Lib.hid (Below.refl _ _).drew
      rw [hw4, hxb]
      clear hw4 hxb D3 D4 kx o3 o4 hb3 hw0
      go_region_held3 (fun X => X.cell? ⟨bx, 0, none⟩ = some (.int .i64 a1) ∧ X.cell? ⟨bx, 1, none⟩ = some (.int .i64 a2) ∧ X.cell? ⟨sx, 0, none⟩ = some (.int .i64 b1) ∧ X.cell? ⟨sx, 1, none⟩ = some (.int .i64 b2) ∧ X.cell? ⟨xb, 0, none⟩ = some (.int .i64 x.1) ∧ X.cell? ⟨xb, 1, none⟩ = some (.int .i64 x.2)) (exact HC.out _ D.out)
        (first
          | (go_at_call 18; (with_reducible refine (HHas.out _).mono ?_); rintro e X ⟨rfl, bb⟩; replace D : Hid (Below w4.heap.size w4 X) := Lib.hid (below_next D.out bb); clear bb)
          | (go_at_call 19; (with_reducible refine (HHas2.out _).mono ?_); rintro e X ⟨rfl, bb⟩; replace D : Hid (Below w4.heap.size w4 X) := Lib.hid (below_next D.out bb); clear bb)
          | (go_at_call 20; (first | with_reducible refine (HOv.out _).mono ?_ | with_reducible refine (HOv3.out _).mono ?_); rintro e X ⟨rfl, bb⟩; replace D : Hid (Below w4.heap.size w4 X) := Lib.hid (below_next D.out bb); clear bb)
          | (go_at_call 21; (with_reducible refine (HOv2.out _).mono ?_); rintro e X ⟨rfl, bb⟩; replace D : Hid (Below w4.heap.size w4 X) := Lib.hid (below_next D.out bb); clear bb)
          | (go_at_call 11; (with_reducible refine (span_any _ _ _).mono ?_); rintro e X ⟨rfl, bb⟩; replace D : Hid (Below w4.heap.size w4 X) := Lib.hid (below_next D.out bb); clear bb)
          | (go_at_call 22; (with_reducible refine (HT.out _ D.out).mono ?_); rintro e X ⟨rfl, bb⟩; replace D : Hid (Below w4.heap.size w4 X) := Lib.hid (below_next D.out bb); clear bb)
          | (go_at_call 16; (with_reducible refine (works_any _).mono ?_); rintro e X ⟨rfl, bb⟩; replace D : Hid (Below w4.heap.size w4 X) := Lib.hid (below_next D.out bb); clear bb))
      all_goals
        go_wp2_with fail
        go_ret
        exact ⟨rfl, HD.out.trans (D.out.mono HD.out.size)⟩
end Go.Proofs.Ytaplmioohihmbaa
