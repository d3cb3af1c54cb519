/- Made by tools/gen/cn.py. -/
/- Layer 15, the statement ChainKeeps, as a walk: what goes by a floor changes nothing from the floor on. -/
import Derived.Test.YteegnehfagkjcaaCnW
import Derived.Test.YteegnehfagkjcaaCnX
namespace Go.Proofs.Yteegnehfagkjcaa
open Go.ChangeShapes Go.WideShapes Go.ChangeAt Go.RowKit

theorem maxu_run (a b : Nat) (W : World) : (Builtin.max_ #[23, 23] 23 #[.int .u64 (a : Int), .int .u64 (b : Int)]).run Try.prog W = .ok (.int .u64 ((max a b : Nat) : Int)) W := by
  by_cases h : a < b
  · rw [Nat.max_eq_right (by omega)]
    simp [Builtin.max_, Builtin.max2]
    omega
  · rw [Nat.max_eq_left (by omega)]
    simp [Builtin.max_, Builtin.max2]
    omega
theorem minu_run (a b : Nat) (W : World) : (Builtin.min_ #[23, 23] 23 #[.int .u64 (a : Int), .int .u64 (b : Int)]).run Try.prog W = .ok (.int .u64 ((min a b : Nat) : Int)) W := by
  by_cases h : b < a
  · rw [Nat.min_eq_right (by omega)]
    simp [Builtin.min_, Builtin.min2]
    omega
  · rw [Nat.min_eq_left (by omega)]
    simp [Builtin.min_, Builtin.min2]
    omega
def u64L (l : List Nat) : List Value := l.map fun (x : Nat) => Value.int .u64 (x : Int)
theorem u64L_one (l : List Nat) : ∀ u ∈ u64L l, u.oneCell' = true := by
  intro u hu
  simp [u64L] at hu
  obtain ⟨x, _, rfl⟩ := hu
  rfl
theorem u64L_len (l : List Nat) : (u64L l).length = l.length := by simp [u64L]
theorem Try.info23 : (Try.prog.info? 23).map (fun i => (i.zero, i.size, i.bytes)) = some (some (.int .u64 0), 1, 8) := by kernel_rfl
theorem cell_pair (W : World) (x0 x1 : Value) (T : TypeId) (g : Nat) (hg : g = W.heap.size) : ∀ j u, [x0, x1][j]? = some u → (W.alloc (.cells #[x0, x1] T)).cell? ((⟨g, 0, none⟩ : Addr).add j) = some u := by
  intro j u hj
  subst hg
  rw [add_at, Nat.zero_add, (Blk.new W T _).cell]
  simpa using hj
/-- The first j of what is left that are at most the floor. -/
def lowN (L : List Cn.Ver) (f j : Nat) : Nat := if 0 < j ∧ 0 < L.length ∧ (Cn.ix L 0).e ≤ f then 1 else 0
/-- Epochs that are looked at: all from the floor on. -/
def EpI (w : World) (f k : Nat) (A : Option Addr) (c : Nat) (W : World) : Prop := ∃ xs : List Nat, xs.length = k ∧ (∀ x ∈ xs, f ≤ x) ∧ W.ownsRow w.heap.size 23 1 (.slice A k c) k (u64L xs)
set_option maxRecDepth 100000 in
set_option maxHeartbeats 4000000 in
theorem lawKeeps_any (w : World) (F0 : Nat → Prop) (A : Option Addr) (n c : Nat) (l : List Cn.Ver) (f mo at_ : Nat) (h : Cells w F0 A n 6 (vrL l)) (hv : ∀ v ∈ l, v.e < 18446744073709551616) (hf : f < 18446744073709551616) (hmo : mo < 18446744073709551616) (_ : at_ < 18446744073709551616) :
    Calls Try.prog 5 #[.slice A n c, .int .u64 (f : Int), .int .u64 (mo : Int), .int .u64 (at_ : Int)] w (BoolP w true) := by
  by_cases h20 : 20 < n
  · have d1 : (20 : Int) < (n : Int) := by omega
    clear h hv h20 hf hmo
    go_enter Try.func5, Try.ntmps5
    go_wp2_with (go_at_call 8; (refine (works_any _).mono ?_); rintro e w10 ⟨rfl, b10⟩; have B12 := Lib.hid b10; clear b10)
    go_ret
    exact ⟨rfl, B12.out⟩
  · have d1 : ¬ (20 : Int) < (n : Int) := by omega
    have hn : n ≤ 20 := by omega
    have hln := vr_len h
    have HR := Lib.hid (rights_any w F0 A n c l h (by omega))
    cases hr : Cn.right l with
    | false =>
      rw [hr] at HR
      clear h hv hf hmo hln hr h20
      go_enter Try.func5, Try.ntmps5
      go_wp2_with (first
        | (go_at_call 13; (refine HR.out.mono ?_); rintro e w1 ⟨rfl, b1⟩; have B1 := Lib.hid b1; clear b1)
        | (go_at_call 8; (refine (works_any _).mono ?_); rintro e w10 ⟨rfl, b10⟩; have B12 := Lib.hid (below_next B1.out b10); clear b10))
      go_ret
      exact ⟨rfl, B12.out⟩
    | true =>
      rw [hr] at HR
      obtain ⟨lt, hlt⟩ : ∃ lt, f + min mo (18446744073709551615 - f) = lt := ⟨_, rfl⟩
      have hfl : f ≤ lt := by omega
      have hl1 : IntKind.u64.wrap (18446744073709551615 - (f : Int)) = ((18446744073709551615 - f : Nat) : Int) := by rw [IntKind.wrap_u64]; omega
      have hl2 : IntKind.u64.wrap ((f : Int) + ((min mo (18446744073709551615 - f) : Nat) : Int)) = (lt : Int) := by rw [IntKind.wrap_u64]; omega
      have hmin : ∀ W : World, (Builtin.min_ #[23, 23] 23 #[.int .u64 (mo : Int), .int .u64 ((18446744073709551615 - f : Nat) : Int)]).run Try.prog W = .ok (.int .u64 ((min mo (18446744073709551615 - f) : Nat) : Int)) W := fun W => minu_run mo _ W
      have hmax : ∀ W : World, (Builtin.max_ #[23, 23] 23 #[.int .u64 (at_ : Int), .int .u64 (f : Int)]).run Try.prog W = .ok (.int .u64 ((max at_ f : Nat) : Int)) W := fun W => maxu_run at_ f W
      have HX := Lib.hid (And.intro hl1 (And.intro hl2 (And.intro hmin hmax)))
      have H := Lib.hid (And.intro h (And.intro hv (And.intro hln (And.intro hr hfl))))
      have HOF := Lib.hid (fun (W : World) (hW : Below w.heap.size w W) => in_of W F0 A n c l (h.below hW) (by omega))
      clear h hv hln hr h20 hl1 hl2 hmin hmax hlt hfl
      go_enter Try.func5, Try.ntmps5
      go_wp2_with (go_at_call 13; (refine HR.out.mono ?_); rintro e w1 ⟨rfl, b1⟩; have B1 := Lib.hid b1; clear b1)
      refine (HOF.out w1 B1.out).mono ?_
      rintro e w2 (⟨hbad, -⟩ | ⟨-, gc, rfl, hc2, b2⟩)
      · rw [H.out.2.2.2.1] at hbad
        cases hbad
      have B2 := Lib.hid (And.intro (below_next B1.out b2) (hc2.mono (G := fun b => w1.heap.size ≤ b ∧ b < w2.heap.size) (fun b h1 h2 => ⟨h2, h1⟩)))
      clear hc2 b2
      go_wp2_with fail
      refine (HOF.out w2 B2.out.1).mono ?_
      rintro e w3 (⟨hbad, -⟩ | ⟨-, gd, rfl, hc3, b3⟩)
      · rw [H.out.2.2.2.1] at hbad
        cases hbad
      have B3 := Lib.hid (And.intro (below_next B2.out.1 b3) (And.intro (B2.out.2.below b3) (hc3.mono (G := fun b => w2.heap.size ≤ b ∧ b < w3.heap.size) (fun b h1 h2 => ⟨h2, h1⟩))))
      clear hc3 b3
      obtain ⟨hl1, hl2, hmin, hmax⟩ := HX.out
      go_wp2_with fail
      clear hl1 hl2 hmin
      go_loopw [14] (fun i wr => ∃ j : Nat, j ≤ n ∧ i = .int .i64 (j : Int) ∧ Below w3.heap.size w3 wr) (fun i _ => n - (intOf i).toNat)
      case atStart => exact ⟨0, Nat.zero_le _, rfl, Below.refl _ _⟩
      case round =>
        obtain ⟨j, hk, rfl, hh⟩ := hrel
        by_cases hlt : j < n
        · have i2 : (0 : Int) ≤ (j : Int) := by omega
          have i3 : (j : Int) < (n : Int) := by omega
          have hbw := below_next B3.out.1 hh
          have yhy := Cn.ix_some (l := l) (i := j) (by have := H.out.2.2.1; omega)
          obtain ⟨y, yeq⟩ : ∃ y, Cn.ix l j = y := ⟨_, rfl⟩
          rw [yeq] at yhy
          obtain ⟨b, off, rfl, -, yhbl, z0, z1, z2, z3, z4, z5⟩ := vr_cells H.out.1 yhy
          have y0 := (hbw.cell (p := ⟨b, off + j * 6, none⟩) yhbl).trans z0
          have y1 := (hbw.cell (p := ⟨b, off + j * 6 + 1, none⟩) yhbl).trans z1
          have y2 := (hbw.cell (p := ⟨b, off + j * 6 + 2, none⟩) yhbl).trans z2
          have y3 := (hbw.cell (p := ⟨b, off + j * 6 + 3, none⟩) yhbl).trans z3
          have y4 := (hbw.cell (p := ⟨b, off + j * 6 + 4, none⟩) yhbl).trans z4
          have y5 := (hbw.cell (p := ⟨b, off + j * 6 + 5, none⟩) yhbl).trans z5
          clear z0 z1 z2 z3 z4 z5
          have hbl : b < wr.heap.size := Nat.lt_of_lt_of_le yhbl hbw.size
          have HG := Lib.hid (fun (W : World) (hW : Below w3.heap.size w3 W) (z : Nat) => in_garbage (B3.out.2.1.below hW) (by have := H.out.2.2.1; omega) y.e z)
          have HY := Lib.hid (fun (W : World) (hW : Below wr.heap.size wr W) => (hW.cell (p := ⟨b, off + j * 6, none⟩) hbl).trans y0)
          have HH := Lib.hid hh
          have hmo := Cn.isAt_mono (l := l) (x := y.e) H.out.2.2.2.2
          clear hh hbw yeq yhy yhbl y1 y2 y3 y4 y5 hk
          cases hp : Cn.isAt l y.e f with
          | false =>
            clear hmo
            go_wp2_with (go_at_call 21; (refine (HG.out _ HH.out f).mono ?_); rintro e w4 ⟨rfl, b4⟩; rw [hp]; have B4 := Lib.hid b4; clear b4)
            go_roundw
            case rel => exact ⟨j + 1, by omega, by go_num, below_next HH.out B4.out⟩
            case measure => simp [intOf]; omega
          | true =>
            have hq := hmo hp
            have HQ := Lib.hid hq
            clear hmo hq
            go_wp2_with (first
              | (go_at_call 21; (with_reducible refine (HG.out _ HH.out f).mono ?_); rintro e w4 ⟨rfl, b4⟩; rw [hp]; have u0 := HY.out w4 b4; have B4 := Lib.hid (below_next HH.out b4); clear b4)
              | (go_at_call 21; (with_reducible refine (HG.out _ B4.out lt).mono ?_); rintro e w5 ⟨rfl, b5⟩; rw [HQ.out]; have B5 := Lib.hid (below_next B4.out b5); clear b5))
            go_roundw
            case rel => exact ⟨j + 1, by omega, by go_num, B5.out⟩
            case measure => simp [intOf]; omega
        · have HH := Lib.hid hh
          have hjn : n = j := by omega
          subst hjn
          clear hh hk hlt
          have hT := Lib.hid (in_trim (B3.out.2.2.below HH.out) (by have := H.out.2.2.1; omega) f)
          have htl := Cn.trimN_le l f
          have hll : (l.drop (Cn.trimN l f)).length = n - Cn.trimN l f := by rw [List.length_drop, H.out.2.2.1]
          have hlow := fun i (hi : i < (l.drop (Cn.trimN l f)).length) => Cn.left_low H.out.2.2.2.1 (f := f) hi
          have hall := fun i (hi : i < (l.drop (Cn.trimN l f)).length) => Cn.left_all H.out.2.2.2.1 (f := f) hi
          have hat := fun x (hx : f ≤ x) => Cn.at_left H.out.2.2.2.1 hx
          have hrd := Cn.right_drop H.out.2.2.2.1 (Cn.trimN l f)
          revert hT htl hll hlow hall hat hrd
          generalize l.drop (Cn.trimN l f) = L
          generalize Cn.trimN l f = k
          intro hT htl hll hlow hall hat hrd
          obtain ⟨m, hm⟩ : ∃ m, n - k = m := ⟨_, rfl⟩
          rw [hm] at hll
          have hm20 : m ≤ 20 := by omega
          have hwr : IntKind.i64.wrap ((n : Int) - (m : Int)) = (k : Int) := by rw [IntKind.wrap_i64]; have := H.out.2.2.1; omega
          have HM := Lib.hid (And.intro hll (And.intro hlow (And.intro hall (And.intro hat (And.intro hrd (And.intro htl hm))))))
          clear htl hll hlow hall hat hrd hm
          go_wp2_with fail
          refine hT.out.mono ?_
          rintro e w4 ⟨rfl, hd4, t4⟩
          have B4 := Lib.hid (And.intro ((B3.out.2.1.below HH.out).turn t4 (fun b h e => by omega)) (And.intro hd4 ((below_next B3.out.1 HH.out).trans (t4.below (below_next B3.out.1 HH.out).size (fun b h => by have := B2.out.1.size; omega)))))
          clear hd4 t4
          go_wp2_with fail
          refine (in_versions B4.out.2.1 (by have := HM.out.1; omega)).mono ?_
          rintro e w5 ⟨A5, c5, rfl, ho5, b5⟩
          rw [HM.out.1] at ho5
          rw [HM.out.1]
          have H5 := Lib.hid (And.intro (Cells.of_own ho5) (And.intro (below_next B4.out.2.2 b5) (And.intro (B4.out.1.below b5) (B4.out.2.1.below b5))))
          have HRL := Lib.hid (rights_any w5 _ A5 m c5 L (Cells.of_own ho5) (by omega))
          rw [HM.out.2.2.2.2.1] at HRL
          clear ho5 b5
          go_wp2_with (go_at_call 13; (with_reducible refine HRL.out.mono ?_); rintro e w6 ⟨rfl, b6⟩; have B6 := Lib.hid b6; clear b6)
          have H6 := Lib.hid (And.intro (H5.out.1.below B6.out) (And.intro (below_next H5.out.2.1 B6.out) (And.intro (H5.out.2.2.1.below B6.out) (H5.out.2.2.2.below B6.out))))
          go_loopw [18, 17] (fun i lo wr => ∃ j : Nat, j ≤ m ∧ i = .int .i64 (j : Int) ∧ lo = .int .i64 (lowN L f j : Int) ∧ Below w6.heap.size w6 wr) (fun i _ _ => m - (intOf i).toNat)
          case atStart => exact ⟨0, Nat.zero_le _, rfl, rfl, Below.refl _ _⟩
          case round =>
            obtain ⟨j, hk2, rfl, rfl, hh⟩ := hrel
            by_cases hlt : j < m
            · have i2 : (0 : Int) ≤ (j : Int) := by omega
              have i3 : (j : Int) < (m : Int) := by omega
              have yhy := Cn.ix_some (l := L) (i := j) (by have := HM.out.1; omega)
              obtain ⟨y, yeq⟩ : ∃ y, Cn.ix L j = y := ⟨_, rfl⟩
              rw [yeq] at yhy
              obtain ⟨b, off, rfl, -, yhbl, z0, z1, z2, z3, z4, z5⟩ := vr_cells H6.out.1 yhy
              have y0 := (hh.cell (p := ⟨b, off + j * 6, none⟩) yhbl).trans z0
              have y1 := (hh.cell (p := ⟨b, off + j * 6 + 1, none⟩) yhbl).trans z1
              have y2 := (hh.cell (p := ⟨b, off + j * 6 + 2, none⟩) yhbl).trans z2
              have y3 := (hh.cell (p := ⟨b, off + j * 6 + 3, none⟩) yhbl).trans z3
              have y4 := (hh.cell (p := ⟨b, off + j * 6 + 4, none⟩) yhbl).trans z4
              have y5 := (hh.cell (p := ⟨b, off + j * 6 + 5, none⟩) yhbl).trans z5
              clear z0 z1 z2 z3 z4 z5
              have hga : Cn.isAt L y.e f = false := by
                rw [Cn.isAt_found HM.out.2.2.2.2.1 (j := j) (by have := HM.out.1; omega) (by rw [yeq])]
                exact HM.out.2.2.1 j (by have := HM.out.1; omega)
              have HG := Lib.hid (in_garbage (H6.out.2.2.2.below hh) (by have := HM.out.1; omega) y.e f)
              rw [hga] at HG
              have HH := Lib.hid hh
              by_cases hx : y.e ≤ f
              · have hlo := HM.out.2.1 j (by have := HM.out.1; omega) (by rw [yeq]; exact hx)
                rw [yeq] at hlo
                obtain ⟨hj0, hdead⟩ := hlo
                subst hj0
                have hl1 : lowN L f 1 = 1 := by unfold lowN; rw [if_pos ⟨by omega, by have := HM.out.1; omega, by rw [yeq]; exact hx⟩]
                have x1 : (y.e : Int) ≤ (f : Int) := by omega
                rw [hdead] at y1
                have HL1 := Lib.hid hl1
                have hl0 : lowN L f 0 = 0 := rfl
                rw [hl0]
                simp only [Nat.zero_mul, Nat.add_zero] at y0 y1
                clear hh yeq yhy yhbl y2 y3 y4 y5 hga hk2 hx hdead hl1 hl0
                go_wp2_with (go_at_call 21; (refine HG.out.mono ?_); rintro e w7 ⟨rfl, b7⟩; have B7 := Lib.hid b7; clear b7)
                go_roundw
                case rel => exact ⟨0 + 1, by omega, rfl, by rw [HL1.out]; rfl, below_next HH.out B7.out⟩
                case measure => simp [intOf]; omega
              · have x1 : ¬ (y.e : Int) ≤ (f : Int) := by omega
                have hl1 : lowN L f (j + 1) = lowN L f j := by
                  unfold lowN
                  rcases Nat.eq_zero_or_pos j with h0 | h0
                  · subst h0
                    rw [if_neg (by rw [yeq]; omega), if_neg (by omega)]
                  · by_cases h2 : 0 < L.length ∧ (Cn.ix L 0).e ≤ f
                    · rw [if_pos ⟨by omega, h2⟩, if_pos ⟨h0, h2⟩]
                    · rw [if_neg (fun h => h2 h.2), if_neg (fun h => h2 h.2)]
                have HL1 := Lib.hid hl1
                clear hh yeq yhy yhbl y1 y2 y3 y4 y5 hga hk2 hx hl1
                go_wp2_with (go_at_call 21; (refine HG.out.mono ?_); rintro e w7 ⟨rfl, b7⟩; have B7 := Lib.hid b7; clear b7)
                go_roundw
                case rel => exact ⟨j + 1, by omega, by go_num, by rw [HL1.out], below_next HH.out B7.out⟩
                case measure => simp [intOf]; omega
            · have hjm : m = j := by omega
              subst hjm
              have HH := Lib.hid hh
              have hlw : lowN L f m ≤ 1 := by unfold lowN; split <;> omega
              obtain ⟨lw, hlwe⟩ : ∃ lw, lowN L f m = lw := ⟨_, rfl⟩
              rw [hlwe] at hlw ⊢
              clear hh hk2 hlt hlwe
              go_wp2_with fail
              obtain ⟨wz, hwz⟩ : ∃ wz, wr.alloc (.cells #[.int .u64 (f : Int), .int .u64 (lt : Int), .int .u64 ((max at_ f : Nat) : Int), .int .u64 18446744073709551615] 23) = wz := ⟨_, rfl⟩
              have hbz := bel_al wr (.cells #[.int .u64 (f : Int), .int .u64 (lt : Int), .int .u64 ((max at_ f : Nat) : Int), .int .u64 18446744073709551615] 23)
              have hnw := Blk.new wr 23 #[.int .u64 (f : Int), .int .u64 (lt : Int), .int .u64 ((max at_ f : Nat) : Int), .int .u64 18446744073709551615]
              rw [hwz] at hbz hnw ⊢
              have hE0 : EpI w6 f 4 (some ⟨wr.heap.size, 0, none⟩) 4 wz := ⟨[f, lt, max at_ f, 18446744073709551615], rfl, by
                have := H.out.2.2.2.2
                intro x hx
                simp only [List.mem_cons, List.not_mem_nil, or_false] at hx
                rcases hx with rfl | rfl | rfl | rfl <;> omega, rfl, .inr ⟨wr.heap.size, 4, _, rfl, HH.out.size, hnw, Nat.le_refl _, by unfold maxLen; omega, rfl, rfl⟩⟩
              have HE0 := Lib.hid (And.intro hE0 (below_next HH.out hbz))
              obtain ⟨i0, hi, hz0, hz1, hz2⟩ := info_parts Try.info23
              have HI := Lib.hid (And.intro hi (And.intro hz0 (And.intro hz1 hz2)))
              clear hwz hbz hnw hE0 hmax hi hz0 hz1 hz2
              go_loopw [20, 19] (fun i ep wr => ∃ (j : Nat) (A1 : Option Addr) (c1 : Nat), j ≤ n ∧ i = .int .i64 (j : Int) ∧ ep = .slice A1 (4 + 2 * j) c1 ∧ EpI w6 f (4 + 2 * j) A1 c1 wr ∧ Below w6.heap.size w6 wr) (fun i _ _ => n - (intOf i).toNat)
              case atStart => exact ⟨0, _, 4, Nat.zero_le _, rfl, rfl, HE0.out.1, HE0.out.2⟩
              case round =>
                obtain ⟨j, A1, c1, hk3, rfl, rfl, hE, hh⟩ := hrel
                by_cases hlt : j < n
                · have i2 : (0 : Int) ≤ (j : Int) := by omega
                  have i3 : (j : Int) < (n : Int) := by omega
                  have hbw := below_next H6.out.2.1 hh
                  have yhy := Cn.ix_some (l := l) (i := j) (by have := H.out.2.2.1; omega)
                  obtain ⟨y, yeq⟩ : ∃ y, Cn.ix l j = y := ⟨_, rfl⟩
                  rw [yeq] at yhy
                  obtain ⟨b, off, rfl, -, yhbl, z0, z1, z2, z3, z4, z5⟩ := vr_cells H.out.1 yhy
                  have y0 := (hbw.cell (p := ⟨b, off + j * 6, none⟩) yhbl).trans z0
                  have y1 := (hbw.cell (p := ⟨b, off + j * 6 + 1, none⟩) yhbl).trans z1
                  have y2 := (hbw.cell (p := ⟨b, off + j * 6 + 2, none⟩) yhbl).trans z2
                  have y3 := (hbw.cell (p := ⟨b, off + j * 6 + 3, none⟩) yhbl).trans z3
                  have y4 := (hbw.cell (p := ⟨b, off + j * 6 + 4, none⟩) yhbl).trans z4
                  have y5 := (hbw.cell (p := ⟨b, off + j * 6 + 5, none⟩) yhbl).trans z5
                  clear z0 z1 z2 z3 z4 z5
                  have hbl : b < wr.heap.size := Nat.lt_of_lt_of_le yhbl hbw.size
                  have hyp := Cn.pos H.out.2.2.2.1 (i := j) (by have := H.out.2.2.1; omega)
                  rw [yeq] at hyp
                  have hyv := H.out.2.1 y (List.mem_of_getElem? yhy)
                  have hws : IntKind.u64.wrap ((y.e : Int) - 1) = ((y.e - 1 : Nat) : Int) := by rw [IntKind.wrap_u64]; omega
                  have hx1 : ∀ W : World, (Builtin.max_ #[23, 23] 23 #[.int .u64 (y.e : Int), .int .u64 (f : Int)]).run Try.prog W = .ok (.int .u64 ((max y.e f : Nat) : Int)) W := fun W => maxu_run y.e f W
                  have hx2 : ∀ W : World, (Builtin.max_ #[23, 23] 23 #[.int .u64 ((y.e - 1 : Nat) : Int), .int .u64 (f : Int)]).run Try.prog W = .ok (.int .u64 ((max (y.e - 1) f : Nat) : Int)) W := fun W => maxu_run (y.e - 1) f W
                  obtain ⟨m1, hm1⟩ : ∃ m1, max y.e f = m1 := ⟨_, rfl⟩
                  obtain ⟨m2, hm2⟩ : ∃ m2, max (y.e - 1) f = m2 := ⟨_, rfl⟩
                  have hf1 : f ≤ m1 ∧ f ≤ m2 := by omega
                  rw [hm1] at hx1
                  rw [hm2] at hx2
                  obtain ⟨xs, hxs, hxf, hown⟩ := hE
                  obtain ⟨w8, hw8⟩ : ∃ w8, (wr.alloc (.cells #[.int .u64 (m1 : Int), .int .u64 (m2 : Int)] 23)).drew = w8 := ⟨_, rfl⟩
                  have X8 : Below wr.heap.size wr w8 := hw8 ▸ (bel_al wr (.cells #[.int .u64 (m1 : Int), .int .u64 (m2 : Int)] 23)).drew
                  have hsrc : ∀ q u, (u64L [m1, m2])[q]? = some u → w8.cell? ((⟨wr.heap.size, 0, none⟩ : Addr).add q) = some u := by
                    rw [← hw8]
                    exact cell_pair wr _ _ _ _ rfl
                  obtain ⟨g3, c3, w9, hrun, hown3, hg3, -, -⟩ := run_append_lies (P := Try.prog) w8 68 68 w6.heap.size 23 i0 _ 1 8 Try.underlying68 HI.out.1 HI.out.2.1 HI.out.2.2.1 HI.out.2.2.2 rfl (by decide) (.slice A1 (4 + 2 * j) c1) (4 + 2 * j) _ (own_below hown X8) ⟨wr.heap.size, 0, none⟩ 2 2 (u64L [m1, m2]) rfl hsrc (u64L_one _) (by decide) (by unfold maxLen; omega) (by omega) (Nat.le_trans hh.size X8.size) _ rfl
                  have hkeep : ∀ r, r < wr.heap.size → (∀ b', (Value.slice A1 (4 + 2 * j) c1).ownBlock = some b' → r ≠ b') → w9.heap[r]? = wr.heap[r]? := fun r hr hne =>
                    (hg3.block r (Nat.lt_of_lt_of_le hr X8.size) (fun e => hne r e.symm rfl)).trans (X8.block r hr)
                  have HS0 : Hid ((fun X : World => X.cell? ⟨b, off + j * 6, none⟩ = some (.int .u64 (y.e : Int))) wr.drew) := Lib.hid y0
                  have HS8 : Hid ((fun X : World => X.cell? ⟨b, off + j * 6, none⟩ = some (.int .u64 (y.e : Int))) w8) := Lib.hid ((World.cell?_of_block (a := ⟨b, off + j * 6, none⟩) (X8.block b hbl)).trans y0)
                  have HS9 : Hid ((fun X : World => X.cell? ⟨b, off + j * 6, none⟩ = some (.int .u64 (y.e : Int))) w9) := Lib.hid ((World.cell?_of_block (a := ⟨b, off + j * 6, none⟩) (hkeep b hbl (fun b' h' e => by have := (hown.lt b' h').1; have := H6.out.2.1.size; omega))).trans y0)
                  have hB9 : Below w6.heap.size w6 w9 := (below_next hh X8).trans ⟨hg3.os, hg3.tape, hg3.output, hg3.size, fun k hk => hg3.block k (by have := (below_next hh X8).size; omega) (fun e => by have := ((own_below hown X8).lt k e.symm).1; omega)⟩
                  have hE9 : EpI w6 f (4 + 2 * (j + 1)) (some ⟨g3, 0, none⟩) c3 w9 := ⟨xs ++ [m1, m2], by rw [List.length_append, hxs]; show 4 + 2 * j + 2 = _; omega, fun x hx => by
                    rcases List.mem_append.1 hx with hx | hx
                    · exact hxf x hx
                    · simp only [List.mem_cons, List.not_mem_nil, or_false] at hx
                      rcases hx with rfl | rfl
                      · exact hf1.1
                      · exact hf1.2, by
                    rw [show u64L (xs ++ [m1, m2]) = u64L xs ++ u64L [m1, m2] by simp [u64L], show 4 + 2 * (j + 1) = 4 + 2 * j + 2 by omega]
                    exact hown3⟩
                  have HRUN := Lib.hid (And.intro hrun (And.intro hB9 hE9))
                  obtain ⟨ln, hlne⟩ : ∃ ln, 4 + 2 * j = ln := ⟨_, rfl⟩
                  have hln2 : 4 + 2 * (j + 1) = ln + 2 := by omega
                  rw [hlne] at HRUN ⊢
                  have HLN := Lib.hid hln2
                  clear hh hbw yeq yhy yhbl y0 y1 y2 y3 y4 y5 hbl hyp hyv hm1 hm2 hf1 hxs hxf hown X8 hsrc hrun hown3 hg3 hkeep hB9 hE9 hk3 hln2
                  go_upto_region 31 with fail
                  go_region_held3 (fun X : World => X.cell? ⟨b, off + j * 6, none⟩ = some (.int .u64 (y.e : Int))) (first | exact HS0.out | exact HS8.out | exact HS9.out)
                    (refine step_append_eq rfl (.tmp 139) (.tmp 155) 68 rfl (v := .slice A1 ln c1) (xv := .slice (some ⟨wr.heap.size, 0, none⟩) 2 2) (v' := .slice (some ⟨g3, 0, none⟩) (ln + 2) c3) (w' := w9) (by simp [Act.eval]) (by simp [Act.eval]) HRUN.out.1 ?_)
                  all_goals
                    go_wp2_with fail
                    go_roundw
                    case rel => exact ⟨j + 1, some ⟨g3, 0, none⟩, c3, by omega, by go_num, by rw [HLN.out], HRUN.out.2.2, HRUN.out.2.1⟩
                    case measure => simp [intOf]; omega
                · have hjn : n = j := by omega
                  subst hjn
                  have HH3 := Lib.hid (And.intro hE hh)
                  clear hE hh hk3 hlt
                  go_wp2_with fail
                  obtain ⟨wb, hwb⟩ : ∃ wb, wb = wr := ⟨wr, rfl⟩
                  rw [← hwb] at HH3
                  rw [← hwb]
                  clear hwb
                  obtain ⟨N, hN⟩ : ∃ N, 4 + 2 * n = N := ⟨_, rfl⟩
                  rw [hN] at HH3 ⊢
                  have hN100 : N ≤ 100 := by omega
                  clear hN
                  go_loopw [21] (fun i wr => ∃ j : Nat, j ≤ N ∧ i = .int .i64 (j : Int) ∧ Below wb.heap.size wb wr) (fun i _ => N - (intOf i).toNat)
                  case atStart => exact ⟨0, Nat.zero_le _, rfl, Below.refl _ _⟩
                  case round =>
                    obtain ⟨j, hk4, rfl, hh⟩ := hrel
                    by_cases hlt : j < N
                    · have i2 : (0 : Int) ≤ (j : Int) := by omega
                      have i3 : (j : Int) < (N : Int) := by omega
                      obtain ⟨xs, hxs, hxf, hown⟩ := HH3.out.1
                      obtain ⟨x, hx⟩ : ∃ x, xs[j]? = some x := ⟨_, List.getElem?_eq_getElem (by omega)⟩
                      have hfx := hxf x (List.mem_of_getElem? hx)
                      obtain ⟨b, off, rfl, -, hbl, hc⟩ := (Cells.of_own hown).at_ (i := j) hlt
                      have hc0 := hc 0 (by omega)
                      simp only [Nat.mul_one, Nat.add_zero] at hc0
                      rw [show (u64L xs)[j]? = some (Value.int .u64 (x : Int)) by simp [u64L, hx]] at hc0
                      have z0 := (hh.cell (p := ⟨b, off + j, none⟩) hbl).trans hc0
                      have hblr : b < wr.heap.size := Nat.lt_of_lt_of_le hbl hh.size
                      have hbw := below_next HH3.out.2 hh
                      have hat := HM.out.2.2.2.1 x hfx
                      obtain ⟨⟨a, ok⟩, hp⟩ : ∃ p, Cn.at_ l x = p := ⟨_, rfl⟩
                      rw [hp] at hat
                      have HA1 := Lib.hid (in_at (H6.out.2.2.1.below hbw) (by have := H.out.2.2.1; omega) x)
                      have HA2 := Lib.hid (fun (W : World) (hW : Below wr.heap.size wr W) => in_at ((H6.out.2.2.2.below hbw).below hW) (by have := HM.out.1; omega) x)
                      rw [hp] at HA1
                      rw [hat] at HA2
                      unfold AtP at HA1 HA2
                      dsimp only at HA1 HA2
                      have HZ := Lib.hid (fun (W : World) (hW : Below wr.heap.size wr W) => (hW.cell (p := ⟨b, off + j, none⟩) hblr).trans z0)
                      have HH := Lib.hid hh
                      have q1 := fun W => pagg_equal a.c a.s a.lo a.hi a.c a.s a.lo a.hi W
                      simp only [beq_self_eq_true, Bool.and_self] at q1
                      have g1 := pagg_guard
                      clear hxs hxf hown hx hc hc0 hbw hat hp hh hk4 hfx
                      go_wp2_with fail
                      refine HA1.out.mono ?_
                      rintro e w11 ⟨rfl, b11⟩
                      have K1 := (Held.start wr).step b11
                      have K2 := K1.new #[.int .i64 a.c, .int .i64 a.s, .int .i64 a.lo, .int .i64 a.hi] 33
                      have u0 := HZ.out _ K2.1
                      have HK2 := Lib.hid K2
                      clear b11 K1 K2 z0
                      go_wp2_with fail
                      refine (HA2.out _ HK2.out.1).mono ?_
                      rintro e w12 ⟨rfl, b12⟩
                      have K3 := HK2.out.step b12
                      have K4 := K3.new #[.int .i64 a.c, .int .i64 a.s, .int .i64 a.lo, .int .i64 a.hi] 33
                      have s0 := K4.drop.top.cell 0
                      have s1 := K4.drop.top.cell 1
                      have s2 := K4.drop.top.cell 2
                      have s3 := K4.drop.top.cell 3
                      simp only [List.getElem?_toArray, List.getElem?_cons_zero, List.getElem?_cons_succ] at s0 s1 s2 s3
                      have HB4 := Lib.hid K4.1
                      have okk : (ok != ok) = false := by simp
                      clear b12 K3 K4 u0
                      go_wp2_with fail
                      go_roundw
                      case rel => exact ⟨j + 1, by omega, by go_num, below_next HH.out HB4.out⟩
                      case measure => simp [intOf]; omega
                    · have hjn : N = j := by omega
                      subst hjn
                      have HH := Lib.hid hh
                      have lw1 : (lw : Int) ≤ 1 := by omega
                      clear hh hk4 hlt
                      go_wp2_with (go_at_call 8; (refine (works_any _).mono ?_); rintro e w20 ⟨rfl, b20⟩; have B20 := Lib.hid b20; clear b20)
                      go_ret
                      exact ⟨rfl, below_next (below_next (below_next H6.out.2.1 HH3.out.2) HH.out) B20.out⟩
end Go.Proofs.Yteegnehfagkjcaa
