/- Layer 14: WindowKnown. -/
import Derived.Test.YtaplmioohihmbaaLaw14P
import Derived.Test.YtaplmioohihmbaaLaw14M
namespace Go.Proofs.Ytaplmioohihmbaa
open Go.ChangeShapes Go.WideShapes Go.ChangeAt Go.RowKit

instance : Inhabited Wd := ⟨⟨0, 0, 0, 0⟩⟩
def wdL (W : Wd) : List Value := [.int .u8 W.k, .int .i64 W.s, .int .i64 W.l, .int .i64 W.g]
theorem wd_at (l : List Wd) (i : Nat) (W : Wd) (h : l[i]? = some W) (q : Nat) (hq : q < 4) : (l.flatMap wdL)[i * 4 + q]? = (wdL W)[q]? := by
  induction l generalizing i with
  | nil => simp at h
  | cons y r ih =>
    rw [List.flatMap_cons]
    cases i with
    | zero =>
      simp at h
      subst h
      rw [Nat.zero_mul, Nat.zero_add, List.getElem?_append_left (by show q < 4; exact hq)]
    | succ i =>
      simp at h
      rw [List.getElem?_append_right (by show 4 ≤ _; omega), show (i + 1) * 4 + q - (wdL y).length = i * 4 + q by show (i + 1) * 4 + q - 4 = _; omega]
      exact ih i h
def winsK : List Wd := [⟨1, 1, 0, 0⟩, ⟨1, 7, 0, 0⟩, ⟨1, 1048576, 0, 0⟩, ⟨1, 1048577, 0, 0⟩, ⟨1, 0, 0, 0⟩, ⟨2, 6, 2, 0⟩, ⟨2, 6, 4, 0⟩, ⟨2, 16, 1, 0⟩, ⟨2, 17, 1, 0⟩, ⟨2, 5, 5, 0⟩, ⟨2, 5, 0, 0⟩, ⟨2, 0, 5, 0⟩, ⟨2, 1048576, 65536, 0⟩, ⟨3, 0, 0, 4⟩, ⟨3, 0, 0, 0⟩, ⟨3, 0, 0, 1048576⟩, ⟨4, 3, 0, 0⟩, ⟨0, 0, 0, 0⟩, ⟨1, 3, 0, 1⟩, ⟨3, 0, 1, 3⟩, ⟨2, 4, 2, 1⟩, ⟨2, -4, -2, 0⟩]
def timesK : List Int := [0, 1, -1, 6, 7, -7, -8, 13, 1099511627776, -1099511627776, 1099511627777, -1099511627777, 9223372036854775807, -9223372036854775808, 12345, -54321]
set_option maxRecDepth 100000 in
set_option maxHeartbeats 4000000 in
theorem windowKnown_any (w : World) : Calls Try.prog 7 #[] w (TrueP w) := by
  have D : Hid (Below w.heap.size w w) := Lib.hid (Below.refl _ _)
  go_enter Try.func7, Try.ntmps7
  go_wp2_with (first
    | (go_at_call 23; (with_reducible refine (ofTumbling_any _ _).mono ?_); rintro e X ⟨rfl, bb⟩; replace D : Hid (Below w.heap.size w X) := Lib.hid (below_next D.out bb); clear bb)
    | (go_at_call 24; (with_reducible refine (ofSliding_any _ _ _).mono ?_); rintro e X ⟨rfl, bb⟩; replace D : Hid (Below w.heap.size w X) := Lib.hid (below_next D.out bb); clear bb)
    | (go_at_call 25; (with_reducible refine (ofSession_any _ _).mono ?_); rintro e X ⟨rfl, bb⟩; replace D : Hid (Below w.heap.size w X) := Lib.hid (below_next D.out bb); clear bb))
  rename World => X0
  have e1 : (X0.alloc (.cells (winsK.flatMap wdL).toArray 23)).heap.size = X0.heap.size + 1 := by simp
  obtain ⟨w2, lb, tb, hw2, hlb, htb, D2, HW0, HT0⟩ : ∃ w2 lb tb, (X0.alloc (.cells (winsK.flatMap wdL).toArray 23)).alloc (.cells (timesK.map (Value.int .i64)).toArray 2) = w2 ∧ X0.heap.size = lb ∧ lb + 1 = tb ∧ Below w.heap.size w w2 ∧ (∀ X, Below w2.heap.size w2 X → ∀ i W, winsK[i]? = some W → X.cell? ⟨lb, i * 4, none⟩ = some (.int .u8 W.k) ∧ X.cell? ⟨lb, i * 4 + 1, none⟩ = some (.int .i64 W.s) ∧ X.cell? ⟨lb, i * 4 + 2, none⟩ = some (.int .i64 W.l) ∧ X.cell? ⟨lb, i * 4 + 3, none⟩ = some (.int .i64 W.g)) ∧ (∀ X, Below w2.heap.size w2 X → ∀ i x, timesK[i]? = some x → X.cell? ⟨tb, i, none⟩ = some (.int .i64 x)) := by
    refine ⟨_, _, _, rfl, rfl, rfl, (D.out.alloc D.out.size _).alloc (by have := D.out.size; rw [e1]; omega) _, fun X hX i W h => ?_, fun X hX i x h => ?_⟩
    · have b0 := Blk.new X0 23 (winsK.flatMap wdL).toArray
      have b1 := b0.below (below_al1 _ (.cells (timesK.map (Value.int .i64)).toArray 2)) b0.lt
      have b2 := b1.below hX b1.lt
      refine ⟨(b2.cell _).trans ?_, (b2.cell _).trans ?_, (b2.cell _).trans ?_, (b2.cell _).trans ?_⟩
      · have := wd_at winsK i W h 0 (by omega)
        rw [List.getElem?_toArray]
        exact this
      · have := wd_at winsK i W h 1 (by omega)
        rw [List.getElem?_toArray]
        exact this
      · have := wd_at winsK i W h 2 (by omega)
        rw [List.getElem?_toArray]
        exact this
      · have := wd_at winsK i W h 3 (by omega)
        rw [List.getElem?_toArray]
        exact this
    · have b0 := Blk.new (X0.alloc (.cells (winsK.flatMap wdL).toArray 23)) 2 (timesK.map (Value.int .i64)).toArray
      rw [e1] at b0
      have b2 := b0.below hX b0.lt
      refine (b2.cell _).trans ?_
      rw [List.getElem?_toArray, List.getElem?_map, h]
      rfl
  have HA := Lib.hid (And.intro D2 (And.intro HW0 HT0))
  clear D2 HW0 HT0 e1 D
  change Code.wp _ _ _ _ ((X0.alloc (.cells (winsK.flatMap wdL).toArray 23)).alloc (.cells (timesK.map (Value.int .i64)).toArray 2))
  rw [hw2, hlb, htb]
  clear hw2 hlb htb
  go_loopw [3] (fun i wr => (∃ j : Nat, j ≤ 22 ∧ i = .int .i64 (j : Int)) ∧ Below w2.heap.size w2 wr) (fun i _ => 22 - (intOf i).toNat)
  case atStart => exact ⟨⟨0, by omega, rfl⟩, Below.refl _ _⟩
  case round =>
    obtain ⟨⟨i, hi, rfl⟩, hb1⟩ := hrel
    rename World => wp
    by_cases hli : i < 22
    · have i1 : (0 : Int) ≤ (i : Int) := by omega
      have i2 : (i : Int) < 22 := by omega
      have HB1 := Lib.hid hb1
      clear hb1
      go_wp2_with fail
      go_loopw [4] (fun i wr => (∃ j : Nat, j ≤ 16 ∧ i = .int .i64 (j : Int)) ∧ Below w2.heap.size w2 wr) (fun i _ => 16 - (intOf i).toNat)
      case atStart => exact ⟨⟨0, by omega, rfl⟩, HB1.out⟩
      case round =>
        obtain ⟨⟨j, hj, rfl⟩, hb2⟩ := hrel
        rename World => wq
        by_cases hlj : j < 16
        · have j1 : (0 : Int) ≤ (j : Int) := by omega
          have j2 : (j : Int) < 16 := by omega
          have HB2 := Lib.hid hb2
          clear hb2
          go_wp2_with fail
          go_loopw [5] (fun i wr => (∃ e : Nat, e ≤ 17 ∧ i = .int .i64 ((e : Int) - 8)) ∧ Below w2.heap.size w2 wr) (fun i _ => (9 - intOf i).toNat)
          case atStart => exact ⟨⟨0, by omega, rfl⟩, HB2.out⟩
          case round =>
            obtain ⟨⟨e, he, rfl⟩, hb3⟩ := hrel
            rename World => wz
            obtain ⟨d, hd⟩ : ∃ d, (e : Int) - 8 = d := ⟨_, rfl⟩
            rw [hd]
            by_cases hle : e < 17
            · have d1 : d < 9 := by omega
              have d2 : -8 ≤ d := by omega
              obtain ⟨W, hW⟩ : ∃ W, winsK[i]? = some W := ⟨_, List.getElem?_eq_getElem (show i < winsK.length from hli)⟩
              obtain ⟨t, ht⟩ : ∃ t, timesK[j]? = some t := ⟨_, List.getElem?_eq_getElem (show j < timesK.length from hlj)⟩
              have HS : Hid (∀ X, Below wz.heap.size wz X → X.cell? ⟨lb, i * 4, none⟩ = some (.int .u8 W.k) ∧ X.cell? ⟨lb, i * 4 + 1, none⟩ = some (.int .i64 W.s) ∧ X.cell? ⟨lb, i * 4 + 2, none⟩ = some (.int .i64 W.l) ∧ X.cell? ⟨lb, i * 4 + 3, none⟩ = some (.int .i64 W.g) ∧ X.cell? ⟨tb, j, none⟩ = some (.int .i64 t)) := Lib.hid fun X hX => by
                obtain ⟨k0, k1, k2, k3⟩ := HA.out.2.1 X (below_next hb3 hX) i W hW
                exact ⟨k0, k1, k2, k3, HA.out.2.2 X (below_next hb3 hX) j t ht⟩
              obtain ⟨u, hu⟩ : ∃ u, IntKind.i64.wrap (t + d) = u := ⟨_, rfl⟩
              obtain ⟨m, hm⟩ : ∃ m, Wn.imx W.s W.g = m := ⟨_, rfl⟩
              obtain ⟨v, hv⟩ : ∃ v, IntKind.i64.wrap (u + m) = v := ⟨_, rfl⟩
              have hmx := fun X => imx_run W.s W.g X
              rw [hm] at hmx
              have HB3 := Lib.hid (And.intro hb3 hd)
              have D : Hid (Below wz.heap.size wz wz.drew) := Lib.hid (Below.refl _ _).drew
              clear hb3 hd hW ht hm
              go_upto_region 12 with fail
              go_cut [6] (fun p wx => p = .pointer (some ⟨wz.heap.size, 0, none⟩) ∧ wx = (wz.alloc (.cells #[.int .i64 u, .int .i64 v] 25)).drew)
              case first =>
                have E1 : Hid (Below wz.heap.size wz (wz.alloc (.cells #[.int .i64 0, .int .i64 0] 25)).drew) := Lib.hid (below_al1 _ _).drew
                have E2 : Hid (Below wz.heap.size wz (wz.alloc (.cells #[.int .i64 u, .int .i64 v] 25)).drew) := Lib.hid (below_al1 _ _).drew
                go_region_held3 (fun X => X.cell? ⟨lb, i * 4, none⟩ = some (.int .u8 W.k) ∧ X.cell? ⟨lb, i * 4 + 1, none⟩ = some (.int .i64 W.s) ∧ X.cell? ⟨lb, i * 4 + 2, none⟩ = some (.int .i64 W.l) ∧ X.cell? ⟨lb, i * 4 + 3, none⟩ = some (.int .i64 W.g) ∧ X.cell? ⟨tb, j, none⟩ = some (.int .i64 t)) (first | with_reducible exact HS.out _ D.out | with_reducible exact HS.out _ E1.out | with_reducible exact HS.out _ E2.out)
                  (fail)
                all_goals
                  go_wp2_with fail
                  go_meet
                  case rel => exact ⟨rfl, rfl⟩
              case rest =>
                obtain ⟨rfl, rfl⟩ := hcut
                obtain ⟨w9, h9⟩ : ∃ w9, (wz.alloc (.cells #[.int .i64 u, .int .i64 v] 25)).drew = w9 := ⟨_, rfl⟩
                obtain ⟨sb, hsb⟩ : ∃ sb, wz.heap.size = sb := ⟨_, rfl⟩
                rw [h9, hsb]
                have E9 : Below wz.heap.size wz w9 := h9 ▸ (below_al1 _ _).drew
                have k9 : Blk w9 sb 25 #[.int .i64 u, .int .i64 v] := by rw [← h9, ← hsb]; exact Blk.new wz _ _
                have HS9 : Hid (∀ X, Below w9.heap.size w9 X → X.cell? ⟨lb, i * 4, none⟩ = some (.int .u8 W.k) ∧ X.cell? ⟨lb, i * 4 + 1, none⟩ = some (.int .i64 W.s) ∧ X.cell? ⟨lb, i * 4 + 2, none⟩ = some (.int .i64 W.l) ∧ X.cell? ⟨lb, i * 4 + 3, none⟩ = some (.int .i64 W.g) ∧ X.cell? ⟨tb, j, none⟩ = some (.int .i64 t) ∧ X.cell? ⟨sb, 0, none⟩ = some (.int .i64 u) ∧ X.cell? ⟨sb, 1, none⟩ = some (.int .i64 v)) := Lib.hid fun X hX => by
                  obtain ⟨k0, k1, k2, k3, k4⟩ := HS.out X (E9.trans (hX.mono E9.size))
                  have k := k9.below hX k9.lt
                  exact ⟨k0, k1, k2, k3, k4, k.cell 0, k.cell 1⟩
                have D9 : Hid (Below w9.heap.size w9 w9.drew) := Lib.hid (Below.refl _ _).drew
                have HB9 := Lib.hid (below_next HB3.out.1 E9)
                have HT : Hid (∀ X, Calls Try.prog 3 #[.agg #[.int .u8 W.k, .int .i64 W.s, .int .i64 W.l, .int .i64 W.g], .int .i64 t, .agg #[.int .i64 u, .int .i64 v]] X (TrueP X)) := Lib.hid fun X => windowTells_any W.k W.s W.l W.g t u v X
                have HP : Hid (∀ X, Calls Try.prog 6 #[.agg #[.int .u8 W.k, .int .i64 W.s, .int .i64 W.l, .int .i64 W.g], .int .i64 t, .agg #[.int .i64 u, .int .i64 v]] X (TrueP X)) := Lib.hid fun X => windowParts_any W.k W.s W.l W.g t u v X
                have HSp : Hid (∀ X : World, Calls Try.prog 4 #[.agg #[.int .i64 u, .int .i64 v], .agg #[.int .i64 t, .int .i64 u], .int .i64 t, .slice (some ⟨X.heap.size, 0, none⟩) 2 2] (X.alloc (.cells #[.int .i64 u, .int .i64 v, .int .i64 d, .int .i64 3] 25)) (TrueP (X.alloc (.cells #[.int .i64 u, .int .i64 v, .int .i64 d, .int .i64 3] 25)))) := Lib.hid fun X => windowSpans_any u v t u t (fun _ => True) (some ⟨X.heap.size, 0, none⟩) 2 2 [(u, v), (d, 3)] _ (Cells.of_blk (Blk.new X _ _) trivial rfl rfl) (by omega)
                clear h9 hsb E9 k9 D hmx hv
                go_upto_region 13 with fail
                go_region_held3 (fun X => X.cell? ⟨lb, i * 4, none⟩ = some (.int .u8 W.k) ∧ X.cell? ⟨lb, i * 4 + 1, none⟩ = some (.int .i64 W.s) ∧ X.cell? ⟨lb, i * 4 + 2, none⟩ = some (.int .i64 W.l) ∧ X.cell? ⟨lb, i * 4 + 3, none⟩ = some (.int .i64 W.g) ∧ X.cell? ⟨tb, j, none⟩ = some (.int .i64 t) ∧ X.cell? ⟨sb, 0, none⟩ = some (.int .i64 u) ∧ X.cell? ⟨sb, 1, none⟩ = some (.int .i64 v)) (first | with_reducible exact HS9.out _ D9.out | with_reducible exact HS9.out _ (D9.out.alloc D9.out.size _))
                  (first
                    | (go_at_call 3; (with_reducible refine (HT.out _).mono ?_); rintro e' X ⟨rfl, bb⟩; replace D9 : Hid (Below w9.heap.size w9 X) := Lib.hid (below_next D9.out bb); clear bb)
                    | (go_at_call 6; (with_reducible refine (HP.out _).mono ?_); rintro e' X ⟨rfl, bb⟩; replace D9 : Hid (Below w9.heap.size w9 X) := Lib.hid (below_next D9.out bb); clear bb)
                    | (go_at_call 4; (with_reducible refine (HSp.out _).mono ?_); rintro e' X ⟨rfl, bb⟩; replace D9 : Hid (Below w9.heap.size w9 X) := Lib.hid ((D9.out.alloc D9.out.size _).trans (bb.mono (D9.out.alloc D9.out.size _).size)); clear bb))
                all_goals
                  go_wp2_with fail
                  exact ⟨⟨⟨e + 1, by omega, int_eq (by have := HB3.out.2; omega)⟩, below_next HB9.out D9.out⟩, by simp [intOf]; omega⟩
            · obtain rfl : e = 17 := by omega
              have d1 : d = 9 := by omega
              subst d1
              have HB3 := Lib.hid hb3
              clear hb3
              go_wp2_with fail
              exact ⟨⟨⟨j + 1, by omega, by go_num⟩, HB3.out⟩, by simp [intOf]; omega⟩
        · obtain rfl : j = 16 := by omega
          have HB2 := Lib.hid hb2
          clear hb2
          go_wp2_with fail
          exact ⟨⟨⟨i + 1, by omega, by go_num⟩, HB2.out⟩, by simp [intOf]; omega⟩
    · obtain rfl : i = 22 := by omega
      have HB1 := Lib.hid hb1
      clear hb1
      have hn := fun X => windowSpans_any 0 0 0 0 0 (fun _ => True) none 0 0 [] X (Cells.nil _ _ _ _) (by omega)
      rename World => wl
      have D := Lib.hid (HA.out.1.trans (HB1.out.mono HA.out.1.size))
      go_wp2_with (first
        | (go_at_call 5; (with_reducible refine (windowMakes_any _ _ _).mono ?_); rintro e' X ⟨rfl, bb⟩; replace D : Hid (Below w.heap.size w X) := Lib.hid (below_next D.out bb); clear bb)
        | (go_at_call 4; (with_reducible refine (hn _).mono ?_); rintro e' X ⟨rfl, bb⟩; replace D : Hid (Below w.heap.size w X) := Lib.hid (below_next D.out bb); clear bb)
        | (go_at_call 16; (with_reducible refine (works_any _).mono ?_); rintro e' X ⟨rfl, bb⟩; replace D : Hid (Below w.heap.size w X) := Lib.hid (below_next D.out bb); clear bb))
      go_ret
      exact ⟨rfl, D.out⟩
end Go.Proofs.Ytaplmioohihmbaa
