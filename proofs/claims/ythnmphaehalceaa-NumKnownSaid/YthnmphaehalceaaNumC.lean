/- The document's product, floors and sums. -/
import Derived.Test.YthnmphaehalceaaNumB
namespace Go.Proofs.Ythnmphaehalceaa
open Go.ChangeShapes Go.WideShapes Go.ChangeAt Go.RowKit

/-- The cells of a wide number. -/
def wcs (m : Int) : Array Value := #[.int .i64 (pA m), .int .i64 (pB m), .int .i64 (pC m), .int .i64 (pD m)]
theorem Blk.four {w : World} {g : Nat} {t : TypeId} {p q r s : Value} (h : Blk w g t #[p, q, r, s]) (a b c d : Value) : Blk ((((w.setCell ⟨g, 0, none⟩ a).setCell ⟨g, 1, none⟩ b).setCell ⟨g, 2, none⟩ c).setCell ⟨g, 3, none⟩ d) g t #[a, b, c, d] :=
  (((h.set_ 0 a).set_ 1 b).set_ 2 c).set_ 3 d
theorem Blk.far4 {w : World} {g f : Nat} {t : TypeId} {cs : Array Value} (h : Blk w g t cs) (hne : f ≠ g) (a b c d : Value) : Blk ((((w.setCell ⟨f, 0, none⟩ a).setCell ⟨f, 1, none⟩ b).setCell ⟨f, 2, none⟩ c).setCell ⟨f, 3, none⟩ d) g t cs :=
  (((h.far hne a).far hne b).far hne c).far hne d
theorem froz4 {w : World} {g : Nat} {t : TypeId} {cs : Array Value} (h : Blk w g t cs) : w.frozen? ⟨g, 0, none⟩ = false ∧ w.frozen? ⟨g, 1, none⟩ = false ∧ w.frozen? ⟨g, 2, none⟩ = false ∧ w.frozen? ⟨g, 3, none⟩ = false :=
  ⟨h.frozen 0, h.frozen 1, h.frozen 2, h.frozen 3⟩
/-- What stands at the head of a round of the product: twice and twice the number, the other one, what is added up. -/
structure MR (w : World) (f g h : Nat) (p q y : Int) (wr : World) : Prop where
  bx : Blk wr f 40 (wcs p)
  bY : Blk wr g 40 (wcs y)
  bs : Blk wr h 40 (wcs q)
  bel : Below w.heap.size w wr
section
variable {w wr w1 : World} {f g h : Nat} {p q y : Int}
theorem MR.below (m : MR w f g h p q y wr) (b : Below wr.heap.size wr w1) : MR w f g h p q y w1 := ⟨m.bx.below b m.bx.lt, m.bY.below b m.bY.lt, m.bs.below b m.bs.lt, below_next m.bel b⟩
theorem MR.setS (m : MR w f g h p q y w1) (q' : Int) (hf : h ≠ f) (hg : h ≠ g) (hw : w.heap.size ≤ h) :
    MR w f g h p q' y ((((w1.setCell ⟨h, 0, none⟩ (.int .i64 (pA q'))).setCell ⟨h, 1, none⟩ (.int .i64 (pB q'))).setCell ⟨h, 2, none⟩ (.int .i64 (pC q'))).setCell ⟨h, 3, none⟩ (.int .i64 (pD q'))) :=
  ⟨m.bx.far4 hf _ _ _ _, m.bY.far4 hg _ _ _ _, m.bs.four _ _ _ _, below_four m.bel hw _ _ _ _⟩
theorem MR.setX (m : MR w f g h p q y w1) (p' : Int) (hg : f ≠ g) (hh : f ≠ h) (hw : w.heap.size ≤ f) :
    MR w f g h p' q y ((((w1.setCell ⟨f, 0, none⟩ (.int .i64 (pA p'))).setCell ⟨f, 1, none⟩ (.int .i64 (pB p'))).setCell ⟨f, 2, none⟩ (.int .i64 (pC p'))).setCell ⟨f, 3, none⟩ (.int .i64 (pD p'))) :=
  ⟨m.bx.four _ _ _ _, m.bY.far4 hg _ _ _ _, m.bs.far4 hh _ _ _ _, below_four m.bel hw _ _ _ _⟩
end
theorem new_two (w : World) (t : TypeId) (c1 c2 : Array Value) : Blk ((w.alloc (.cells c1 t)).alloc (.cells c2 t)) w.heap.size t c1 ∧ Blk ((w.alloc (.cells c1 t)).alloc (.cells c2 t)) (w.heap.size + 1) t c2 ∧ ((w.alloc (.cells c1 t)).alloc (.cells c2 t)).heap.size = w.heap.size + 2 ∧ Below w.heap.size w ((w.alloc (.cells c1 t)).alloc (.cells c2 t)) := by
  have h := Blk.new (w.alloc (.cells c1 t)) t c2
  have e : (w.alloc (.cells c1 t)).heap.size = w.heap.size + 1 := by simp
  rw [e] at h
  exact ⟨(Blk.new w t c1).below ((Below.refl (w.heap.size + 1) _).alloc (by omega) _) (by omega), h, by simp, ((Below.refl _ _).alloc (Nat.le_refl _) _).alloc (by omega) _⟩
theorem prod_start (x : Int) (Y : Nat) : wcs (prod x Y 0) = #[.int .i64 0, .int .i64 0, .int .i64 0, .int .i64 0] := by rw [prod_zero]; rfl
theorem two_start (x : Int) : wcs (x * 2 ^ 0) = wcs x := by rw [Int.pow_zero, Int.mul_one]
theorem MR.start {w V : World} {f g : Nat} {x : Int} {Y : Nat} (h1 : Blk V f 40 (wcs x)) (h2 : Blk V g 40 (wcs (Y : Int))) (hb : Below w.heap.size w V) :
    MR w f g V.heap.size (x * 2 ^ 0) (prod x Y 0) Y (V.alloc (.cells #[.int .i64 0, .int .i64 0, .int .i64 0, .int .i64 0] 40)) := by
  have ab : Below V.heap.size V (V.alloc (.cells #[.int .i64 0, .int .i64 0, .int .i64 0, .int .i64 0] 40)) := (Below.refl _ _).alloc (Nat.le_refl _) _
  exact ⟨by rw [two_start]; exact h1.below ab h1.lt, h2.below ab h2.lt, by rw [prod_start]; exact Blk.new _ _ _, below_next hb ab⟩
set_option maxRecDepth 100000 in
set_option maxHeartbeats 4000000 in
theorem refMul_any (a b : Int) (w : World) (ha : -9223372036854775808 ≤ a ∧ a ≤ 9223372036854775807) (hb : -9223372036854775808 ≤ b ∧ b ≤ 9223372036854775807) :
    Calls Try.prog 13 #[.int .i64 a, .int .i64 b] w (TwoBB (fitN (a * b)) (fitB (a * b)) w) := by
  rcases Int.lt_or_le b 0 with hp | hp
  case' inl =>
    obtain ⟨Y, hY⟩ : ∃ Y : Nat, b = -(Y : Int) := ⟨b.natAbs, by omega⟩
    subst hY
    rw [show a * -(Y : Int) = -a * Y by rw [Int.mul_neg, Int.neg_mul]]
    have hl := fun W => less_any (-(Y : Int)) W (by unfold Room; omega)
    rw [Int.neg_neg] at hl
    have hY : Y ≤ 9223372036854775808 := by omega
    go_enter Try.func13, Try.ntmps13
    go_wp2_with fail
    refine (of_any a _ ha).mono ?_
    rintro e w1 ⟨rfl, b1⟩
    go_wp2_with fail
    refine (of_any _ _ hb).mono ?_
    rintro e w2 ⟨rfl, b2⟩
    go_wp2_with fail
    refine (less_any a _ (room64 ha)).mono ?_
    rintro e w3 ⟨rfl, b3⟩
    obtain ⟨n1, n2, n3, n4⟩ := new_two w2 40 (wcs a) (wcs (-(Y : Int)))
    replace b3 : Below (w2.heap.size + 2) ((w2.alloc (.cells (wcs a) 40)).alloc (.cells (wcs (-(Y : Int))) 40)) w3 := by rw [← n3]; exact b3
    have k1 := n1.below b3 (by omega)
    have k2 := n2.below b3 (by omega)
    have z3 : w2.heap.size + 2 ≤ w3.heap.size := by rw [← n3]; exact b3.size
    have d3 := below_next (below_next b1 b2) (n4.trans (b3.mono (by omega)))
    have zw : w.heap.size ≤ w2.heap.size := Nat.le_trans b1.size b2.size
    clear n1 n2 n3 n4 b3 b1 b2
    have x1 := cells4 k1
    have x2 := cells4 k2
    have f1 := froz4 k1
    obtain ⟨V3, hV3⟩ : ∃ V, (((w3.setCell ⟨w2.heap.size, 0, none⟩ (.int .i64 (pA (-a)))).setCell ⟨w2.heap.size, 1, none⟩ (.int .i64 (pB (-a)))).setCell ⟨w2.heap.size, 2, none⟩ (.int .i64 (pC (-a)))).setCell ⟨w2.heap.size, 3, none⟩ (.int .i64 (pD (-a))) = V := ⟨_, rfl⟩
    have k3 : Blk V3 w2.heap.size 40 (wcs (-a)) := by rw [← hV3]; exact k1.four _ _ _ _
    have k4 : Blk V3 (w2.heap.size + 1) 40 (wcs (-(Y : Int))) := by rw [← hV3]; exact k2.far4 (by omega) _ _ _ _
    have d4 : Below w.heap.size w V3 := by rw [← hV3]; exact below_four d3 zw _ _ _ _
    have z4 : V3.heap.size = w3.heap.size := by rw [← hV3]; simp
    have x3 := cells4 k3
    have x4 := cells4 k4
    have hd : decide (0 < Y) = true := by simpa using (by omega : 0 < Y)
    go_wp2_with fail
    refine (hl _).mono ?_
    rintro e w4 ⟨rfl, b4⟩
    clear x1 x2 f1 x3 x4 hV3 k1 k2 d3 hl
    have k5 := k3.below b4 (by omega)
    have k6 := k4.below b4 (by omega)
    have z5 := b4.size
    have d5 := below_next d4 b4
    have f6 := froz4 k6
    have x6 := cells4 k6
    clear b4 k3 k4 d4
    obtain ⟨V, hV⟩ : ∃ V, (((w4.setCell ⟨w2.heap.size + 1, 0, none⟩ (.int .i64 (pA (Y : Int)))).setCell ⟨w2.heap.size + 1, 1, none⟩ (.int .i64 (pB (Y : Int)))).setCell ⟨w2.heap.size + 1, 2, none⟩ (.int .i64 (pC (Y : Int)))).setCell ⟨w2.heap.size + 1, 3, none⟩ (.int .i64 (pD (Y : Int))) = V := ⟨_, rfl⟩
    have hM : MR w w2.heap.size (w2.heap.size + 1) V.heap.size (-a * 2 ^ 0) (prod (-a) Y 0) Y (V.alloc (.cells #[.int .i64 0, .int .i64 0, .int .i64 0, .int .i64 0] 40)) := by
      rw [← hV]
      exact MR.start (k5.far4 (by omega) _ _ _ _) (k6.four _ _ _ _) (below_four d5 (by omega) _ _ _ _)
    have hne : w2.heap.size < w2.heap.size + 1 ∧ w2.heap.size + 1 < V.heap.size := ⟨by omega, by rw [← hV]; simp; omega⟩
    have ax : -9223372036854775808 ≤ -a ∧ -a ≤ 9223372036854775808 := by omega
    have HM := Lib.hid hM
    clear hM k5 k6 d5 z5 z4 z3
    generalize -a = x at *
    go_wp2_with fail
    clear hV x6 f6 hd
    generalize V.heap.size = h at *
    generalize w2.heap.size + 1 = g at *
    generalize w2.heap.size = f at *
    generalize V.alloc (.cells #[.int .i64 0, .int .i64 0, .int .i64 0, .int .i64 0] 40) = V' at *
  case' inr =>
    obtain ⟨Y, rfl⟩ := Int.eq_ofNat_of_zero_le hp
    have hY : Y ≤ 9223372036854775808 := by omega
    have ax : -9223372036854775808 ≤ a ∧ a ≤ 9223372036854775808 := by omega
    go_enter Try.func13, Try.ntmps13
    go_wp2_with fail
    refine (of_any a _ ha).mono ?_
    rintro e w1 ⟨rfl, b1⟩
    go_wp2_with fail
    refine (of_any _ _ hb).mono ?_
    rintro e w2 ⟨rfl, b2⟩
    obtain ⟨n1, n2, n3, n4⟩ := new_two w2 40 (wcs a) (wcs (Y : Int))
    have hM : MR w w2.heap.size (w2.heap.size + 1) (w2.heap.size + 1 + 1) (a * 2 ^ 0) (prod a Y 0) Y (((w2.alloc (.cells (wcs a) 40)).alloc (.cells (wcs (Y : Int)) 40)).alloc (.cells #[.int .i64 0, .int .i64 0, .int .i64 0, .int .i64 0] 40)) := by
      have := MR.start n1 n2 (below_next (below_next b1 b2) n4)
      rwa [n3] at this
    have hne : w2.heap.size < w2.heap.size + 1 ∧ w2.heap.size + 1 < w2.heap.size + 1 + 1 := ⟨by omega, by omega⟩
    unfold wcs at hM
    have HM := Lib.hid hM
    have zw : w.heap.size ≤ w2.heap.size := Nat.le_trans b1.size b2.size
    clear hM n1 n2 n3 n4 b1 b2
    go_wp2_with fail
    generalize w2.heap.size + 1 + 1 = h at *
    generalize w2.heap.size + 1 = g at *
    generalize w2.heap.size = f at *
    generalize ((w2.alloc (.cells #[.int .i64 (pA a), .int .i64 (pB a), .int .i64 (pC a), .int .i64 (pD a)] 40)).alloc (.cells #[.int .i64 (pA (Y : Int)), .int .i64 (pB (Y : Int)), .int .i64 (pC (Y : Int)), .int .i64 (pD (Y : Int))] 40)).alloc (.cells #[.int .i64 0, .int .i64 0, .int .i64 0, .int .i64 0] 40) = V' at *
    generalize a = x at *
  all_goals
    go_loopw [9] (fun i wr => ∃ k : Nat, k ≤ 64 ∧ i = .int .i64 (k : Int) ∧ MR w f g h (x * 2 ^ k) (prod x Y k) Y wr) (fun i _ => 64 - (intOf i).toNat)
    case atStart => exact ⟨0, by omega, rfl, HM.out⟩
    case round =>
      clear HM
      obtain ⟨k, hk, rfl, hm⟩ := hrel
      have y0 := (cells4 hm.bY).1
      have y1 := (cells4 hm.bY).2.1
      have x0 := cells4 hm.bx
      have s0 := cells4 hm.bs
      have HM := Lib.hid hm
      clear hm
      by_cases hlt : k < 64
      · have rx := room_two x k ax (by omega)
        have rs := room_prod x Y k ax hY
        have ep := prod_one x Y k
        have en := prod_no x Y k
        have et := two_step x k
        have EP := Lib.hid ep
        have EN := Lib.hid en
        have ET := Lib.hid et
        clear ep en et
        rcases Nat.lt_or_ge k 32 with h32 | h32
        case' inl =>
          have e1 := and_one (pA (Y : Int) / 2 ^ k)
          rw [dig_A Y k h32] at e1
          have e2 : True := trivial
        case' inr =>
          have e1 := and_one (pA (Y : Int) / 2 ^ k)
          have e2 := and_one (pB (Y : Int) / 2 ^ (k - 32))
          rw [dig_B Y k h32 hlt] at e2
        all_goals
          by_cases hd : dig Y k = 1
          · go_wp2_with fail
            refine (plus_any _ _ _ rs rx).mono ?_
            rintro e w1 ⟨rfl, b1⟩
            have m1 := HM.out.below b1
            clear y0 y1 x0 s0 b1 HM
            have s1 := cells4 m1.bs
            have f1 := froz4 m1.bs
            obtain ⟨V1, hV1⟩ : ∃ V, (((w1.setCell ⟨h, 0, none⟩ (.int .i64 (pA (prod x Y k + x * 2 ^ k)))).setCell ⟨h, 1, none⟩ (.int .i64 (pB (prod x Y k + x * 2 ^ k)))).setCell ⟨h, 2, none⟩ (.int .i64 (pC (prod x Y k + x * 2 ^ k)))).setCell ⟨h, 3, none⟩ (.int .i64 (pD (prod x Y k + x * 2 ^ k))) = V := ⟨_, rfl⟩
            have m2 := m1.setS (prod x Y k + x * 2 ^ k) (by omega) (by omega) (by omega)
            rw [hV1] at m2
            have x2 := cells4 m2.bx
            have M2 := Lib.hid m2
            clear m1 m2
            go_wp2_with fail
            refine (plus_any _ _ _ rx rx).mono ?_
            rintro e w2 ⟨rfl, b2⟩
            have m3 := M2.out.below b2
            clear x2 b2 M2 s1 f1 hV1
            have x3 := cells4 m3.bx
            have f3 := froz4 m3.bx
            obtain ⟨V2, hV2⟩ : ∃ V, (((w2.setCell ⟨f, 0, none⟩ (.int .i64 (pA (x * 2 ^ k + x * 2 ^ k)))).setCell ⟨f, 1, none⟩ (.int .i64 (pB (x * 2 ^ k + x * 2 ^ k)))).setCell ⟨f, 2, none⟩ (.int .i64 (pC (x * 2 ^ k + x * 2 ^ k)))).setCell ⟨f, 3, none⟩ (.int .i64 (pD (x * 2 ^ k + x * 2 ^ k))) = V := ⟨_, rfl⟩
            have m4 := m3.setX (x * 2 ^ k + x * 2 ^ k) (by omega) (by omega) (by omega)
            rw [hV2] at m4
            have M4 := Lib.hid m4
            clear m3 m4
            go_wp2_with fail
            go_roundw
            case rel =>
              have m := M4.out
              rw [ET.out, ← EP.out hd] at m
              exact ⟨k + 1, by omega, by go_num, m⟩
            case measure => simp [intOf]; omega
          · have hd1 : (dig Y k == 1) = false := beq_eq_false_iff_ne.mpr hd
            have HD := Lib.hid hd
            clear hd
            go_wp2_with fail
            refine (plus_any _ _ _ rx rx).mono ?_
            rintro e w2 ⟨rfl, b2⟩
            have m3 := HM.out.below b2
            clear y0 y1 x0 s0 b2 HM
            have x3 := cells4 m3.bx
            have f3 := froz4 m3.bx
            obtain ⟨V2, hV2⟩ : ∃ V, (((w2.setCell ⟨f, 0, none⟩ (.int .i64 (pA (x * 2 ^ k + x * 2 ^ k)))).setCell ⟨f, 1, none⟩ (.int .i64 (pB (x * 2 ^ k + x * 2 ^ k)))).setCell ⟨f, 2, none⟩ (.int .i64 (pC (x * 2 ^ k + x * 2 ^ k)))).setCell ⟨f, 3, none⟩ (.int .i64 (pD (x * 2 ^ k + x * 2 ^ k))) = V := ⟨_, rfl⟩
            have m4 := m3.setX (x * 2 ^ k + x * 2 ^ k) (by omega) (by omega) (by omega)
            rw [hV2] at m4
            have M4 := Lib.hid m4
            clear m3 m4
            go_wp2_with fail
            go_roundw
            case rel =>
              have m := M4.out
              rw [ET.out, ← EN.out HD.out] at m
              exact ⟨k + 1, by omega, by go_num, m⟩
            case measure => simp [intOf]; omega
      · obtain rfl : k = 64 := by omega
        have rs := room_prod x Y 64 ax hY
        go_wp2_with fail
        refine (fit_any _ _ rs).mono ?_
        rw [prod_all x Y (by omega)]
        rintro e w2 ⟨rfl, b2⟩
        go_wp2_with fail
        go_ret2
        exact ⟨rfl, below_next HM.out.bel b2⟩
end Go.Proofs.Ythnmphaehalceaa
