/- FrameTakes, walked. -/
import Derived.Test.YtnokbnobnhkmgaaLaw7A
import Derived.Test.YtnokbnobnhkmgaaSpoilB
namespace Go.Proofs.Ytnokbnobnhkmgaa
open Go.ChangeShapes Go.WideShapes Go.ChangeAt Go.RowKit

theorem Fr.tk_ok {b : List Nat} (hb : ∀ x ∈ b, x < 256) (a : Int) : (∀ x ∈ (Fr.tk b a).1, x < 256) ∧ (Fr.tk b a).1.length ≤ 8192 := by
  unfold Fr.tk
  split
  · simp
  · rename_i h
    have e : tkA b a.toNat = tkN b a.toNat := by unfold tkA; rw [if_neg (by omega)]
    rw [← e]
    refine ⟨fun x hx => hb x (tkA_sub b _ x hx), ?_⟩
    rcases tkA_cases b a.toNat with h1 | h1 | ⟨_, _, _, h1⟩
    · rw [h1]; simp
    · rw [h1]; simp
    · exact h1
theorem Fr.from_len (b : List Nat) : (Fr.from_ b 0).1.length ≤ b.length + 1 := by
  have key : ∀ f a, (Fr.all f b a).1.length ≤ f := by
    intro f
    induction f with
    | zero => intro a; simp [Fr.all]
    | succ f ih =>
      intro a
      unfold Fr.all
      split
      · simp
      · split
        · simp
        · have := ih (Fr.tkA b a).2.1
          simp
          exact this
  exact key (b.length + 1) 0
set_option maxRecDepth 100000 in
set_option maxHeartbeats 8000000 in
theorem frameTakes_any (n c B : Nat) (A : Option Addr) (b : List Nat) (at_ : Int) (w : World) (h : Bytes w B A n b) (hB : B ≤ w.heap.size) (hc : n ≤ c) (hn : n ≤ 9223372036854775807) (hat : -9223372036854775808 ≤ at_ ∧ at_ ≤ 9223372036854775807) :
    Calls Try.prog 4 #[.slice A n c, .int .i64 at_] w (LawP w) := by
  have HP := Lib.hid (And.intro h (And.intro hB hat))
  clear h hB hat
  go_enter Try.func4, Try.ntmps4
  by_cases h2000 : 2000 < n
  · have i20 : (2000 : Int) < n := by omega
    go_wp2_with fail
    refine (works7_any _).mono ?_
    rintro e w1 ⟨rfl, b1⟩
    have D := Lib.hid b1
    clear b1
    go_wp2_with fail
    go_ret
    exact ⟨rfl, D.out⟩
  · have i20 : ¬ (2000 : Int) < n := by omega
    go_wp2_with fail
    refine (own_any n c B A b w HP.out.1 (by omega)).mono ?_
    rintro e w1 ⟨A1, c1, rfl, ho1, b1⟩
    have H1 := Lib.hid (And.intro ho1 b1)
    have hc1 := own_cap ho1
    have hx := Fr.tk_ok HP.out.1.2.1 at_
    have hl := Fr.from_len b
    rw [HP.out.1.1] at hl
    have hbk := from_ok HP.out.1.2.1 0
    obtain ⟨X, nx, er, hX⟩ : ∃ X nx er, Fr.tk b at_ = (X, nx, er) := ⟨_, _, _, rfl⟩
    obtain ⟨L, en, hL⟩ : ∃ L en, Fr.from_ b 0 = (L, en) := ⟨_, _, rfl⟩
    rw [hX] at hx
    rw [hL] at hl hbk
    dsimp only at hx hl hbk
    obtain ⟨m, hm⟩ : ∃ m, X.length = m := ⟨_, rfl⟩
    obtain ⟨k0, hk0⟩ : ∃ k0, L.length = k0 := ⟨_, rfl⟩
    rw [hm] at hx
    rw [hk0] at hl
    have hm1 := hx.2
    have HX := Lib.hid (And.intro hX (And.intro hm (And.intro hx.1 (And.intro hL (And.intro hk0 hbk)))))
    have HTk : Hid (∀ W, Below w1.heap.size w1 W → Calls Try.prog 18 #[.slice A n c, .int .i64 at_] W fun e w' => ∃ A' c', e = .returned (.tuple #[.slice A' m c', .int .i64 nx, .int .i64 er]) ∧ w'.ownsRow W.heap.size 5 1 (.slice A' m c') m (u8s X) ∧ Below W.heap.size W w') := Lib.hid fun W hW =>
      take7_let hX hm (HP.out.1.below (b1.trans (hW.mono b1.size)) HP.out.2.1) (Nat.le_trans HP.out.2.1 (Nat.le_trans b1.size hW.size)) (by omega) hc HP.out.2.2
    have HRk : Hid (∀ W, Below w1.heap.size w1 W → Calls Try.prog 19 #[.slice A1 n c1, .int .i64 at_] W fun e w' => ∃ A' c', e = .returned (.tuple #[.slice A' m c', .int .i64 nx, .int .i64 er]) ∧ w'.ownsRow W.heap.size 5 1 (.slice A' m c') m (u8s X) ∧ Below W.heap.size W w') := Lib.hid fun W hW => by
      have := refTake7_any n c1 W.heap.size A1 b at_ W (own_bytes7 ho1 HP.out.1.2.1 hW) (Nat.le_refl _) (by omega) hc1 HP.out.2.2
      rw [hX] at this
      subst hm
      exact this
    have HAl : Hid (∀ W, Below w1.heap.size w1 W → Calls Try.prog 20 #[.slice A n c] W fun e w' => ∃ A' c' V, e = .returned (.tuple #[.slice A' k0 c', .int .i64 (en : Int)]) ∧ w'.ownsRow W.heap.size 44 2 (.slice A' k0 c') k0 V ∧ Founds w' W.heap.size V L ∧ Below W.heap.size W w') := Lib.hid fun W hW => by
      have := fAll7_any n c B A b W (HP.out.1.below (b1.trans (hW.mono b1.size)) HP.out.2.1) (Nat.le_trans HP.out.2.1 (Nat.le_trans b1.size hW.size)) (by omega) hc
      rw [hL] at this
      subst hk0
      exact this
    have HRl : Hid (∀ W, Below w1.heap.size w1 W → Calls Try.prog 21 #[.slice A1 n c1] W fun e w' => ∃ A' c' V, e = .returned (.tuple #[.slice A' k0 c', .int .i64 (en : Int)]) ∧ w'.ownsRow W.heap.size 53 2 (.slice A' k0 c') k0 V ∧ Founds w' W.heap.size V L ∧ Below W.heap.size W w') := Lib.hid fun W hW => by
      have := refAll7_any n c1 W.heap.size A1 b W (own_bytes7 ho1 HP.out.1.2.1 hW) (Nat.le_refl _) (by omega) hc1
      rw [hL] at this
      subst hk0
      exact this
    clear ho1 b1 hx hX hL hm hk0 hbk
    go_wp2_with fail
    go_loopw [6] (fun t wx => ∃ k : Nat, k ≤ 2 ∧ t = .int .i64 (k : Int) ∧ Below w1.heap.size w1 wx) (fun t _ => 2 - (intOf t).toNat)
    case atStart => exact ⟨0, by omega, rfl, Below.refl _ _⟩
    case round =>
      obtain ⟨k, hk, rfl, hx⟩ := hrel
      have HW := Lib.hid hx
      clear hx
      by_cases hk2 : k < 2
      · have i1 : (k : Int) < 2 := by omega
        go_wp2_with fail
        refine (HTk.out wr HW.out).mono ?_
        rintro e v1 ⟨A2, c2, rfl, o2, b2⟩
        have G1 := Lib.hid (below_next HW.out b2)
        have O2 := Lib.hid (own_lower o2 HW.out.size)
        clear o2 b2
        go_wp2_with fail
        refine (HRk.out v1 G1.out).mono ?_
        rintro e v2 ⟨A3, c3, rfl, o3, b3⟩
        have G2 := Lib.hid (below_next G1.out b3)
        have P2 := Lib.hid (And.intro (own_below O2.out b3) o3)
        clear o3 b3 O2
        go_wp2_with fail
        refine (HAl.out v2 G2.out).mono ?_
        rintro e v3 ⟨A4, c4, V4, rfl, o4, f4, b4⟩
        have G3 := Lib.hid (below_next G2.out b4)
        have P3 := Lib.hid (And.intro (own_below P2.out.1 b4) (own_below P2.out.2 b4))
        have Q3 := Lib.hid (And.intro (own_lower o4 G2.out.size) f4)
        have hv2 := Lib.hid G2.out.size
        clear o4 f4 b4 P2
        go_wp2_with fail
        refine (HRl.out v3 G3.out).mono ?_
        rintro e v4 ⟨A5, c5, V5, rfl, o5, f5, b5⟩
        have G4 := Lib.hid (below_next G3.out b5)
        have P4 := Lib.hid (And.intro (own_below P3.out.1 b5) (own_below P3.out.2 b5))
        have Q4 := Lib.hid (And.intro (And.intro (own_below Q3.out.1 b5) (Q3.out.2.below b5)) (And.intro o5 f5))
        clear o5 f5 b5 P3 Q3
        go_wp2_with fail
        refine (same_fit m c2 c3 A2 A3 X v4 (Bytes.of_own P4.out.1 HX.out.2.2.1) (Bytes.of_own P4.out.2 HX.out.2.2.1) (by omega)).mono ?_
        rintro e v5 ⟨rfl, b6⟩
        have G5 := Lib.hid (below_next G4.out b6)
        have P5 := Lib.hid (own_below P4.out.1 b6)
        have Q5 := Lib.hid (And.intro (And.intro (own_below Q4.out.1.1 b6) (Q4.out.1.2.below b6)) (And.intro (own_below Q4.out.2.1 b6) (Q4.out.2.2.below b6)))
        clear b6 P4 Q4
        go_wp2_with fail
        refine (same_found k0 c4 c5 _ _ _ _ A4 A5 V4 V5 L v5 Q5.out.1.1 Q5.out.1.2 Q5.out.2.1 Q5.out.2.2 HX.out.2.2.2.2.2).mono ?_
        rintro e v6 ⟨rfl, b7⟩
        have G6 := Lib.hid (below_next G5.out b7)
        have P6 := Lib.hid (Sp.of_own (own_below P5.out b7))
        have Q6 := Lib.hid (And.intro (own_below Q5.out.1.1 b7) (Q5.out.1.2.below b7))
        clear b7 P5 Q5
        go_wp2_with fail
        refine (spoil_sp _ m c2 A2 v6 P6.out (by omega)).mono ?_
        rintro e v7 ⟨rfl, ht7⟩
        have G7 := Lib.hid (ht7.below G6.out (Nat.le_refl _) G6.out.size)
        have HF : Hid (∀ i, i < k0 → ∃ g a q c', A4 = some ⟨g, 0, none⟩ ∧ V4[i * 2]? = some (.slice a q c') ∧ q ≤ 1000000 ∧ Sp v7 w1.heap.size a q) := Lib.hid fun i hi => by
          obtain ⟨g, a, q, c', hA, -, -, h3, h4⟩ := Q6.out.2.at_ Q6.out.1 hi
          obtain ⟨a2, q2, c2', e1, -, -, e4⟩ := Q6.out.2.2 i (by have := HX.out.2.2.2.2.1; omega)
          refine ⟨g, a2, q2, c2', hA, e1, by have := own_max e4; have h5 := (Q6.out.2.2 i (by have := HX.out.2.2.2.2.1; omega)); obtain ⟨a3, q3, c3', f1, -, f3, -⟩ := h5; rw [f1] at e1; injection e1 with e1; injection e1 with _ e1 _; omega, ?_⟩
          exact ht7.sp (Sp.of_own (own_lower e4 hv2.out))
        have Q7 := Lib.hid (ht7.own Q6.out.1 (by decide))
        clear ht7 Q6 P6
        go_wp2_with fail
        go_loopw [17] (fun t wx => ∃ j : Nat, j ≤ k0 ∧ t = .int .i64 (j : Int) ∧ Below w1.heap.size w1 wx ∧ wx.ownsRow w1.heap.size 44 2 (.slice A4 k0 c4) k0 V4 ∧ ∀ i, i < k0 → ∃ g a q c', A4 = some ⟨g, 0, none⟩ ∧ V4[i * 2]? = some (.slice a q c') ∧ q ≤ 1000000 ∧ Sp wx w1.heap.size a q) (fun t _ => k0 - (intOf t).toNat)
        case atStart => exact ⟨0, by omega, rfl, G7.out, Q7.out, HF.out⟩
        case round =>
          obtain ⟨j, hj, rfl, hx, hown, hfs⟩ := hrel
          have HY := Lib.hid (And.intro hx (And.intro hown hfs))
          clear hx hown hfs
          by_cases hjk : j < k0
          · obtain ⟨g, a, q, c', hA, e1, hq, hs⟩ := HY.out.2.2 j hjk
            subst hA
            have e2 := HY.out.2.1.cells (g := g) rfl _ _ e1
            rw [add_at, Nat.zero_add] at e2
            have HS := Lib.hid hs
            have i2 : (0 : Int) ≤ j := by omega
            have i3 : (j : Int) < k0 := by omega
            clear e1 hs
            go_wp2_with fail
            clear e2
            refine (spoil_sp _ q c' a wr HS.out hq).mono ?_
            rintro e v8 ⟨rfl, ht8⟩
            have HT := Lib.hid ht8
            clear ht8
            go_wp2_with fail
            refine ⟨⟨j + 1, by omega, by go_num, HT.out.below HY.out.1 (Nat.le_refl _) HY.out.1.size, HT.out.own HY.out.2.1 (by decide), fun i hi => ?_⟩, by simp [intOf]; omega⟩
            obtain ⟨g2, a2, q2, c2', hA2, f1, f2, f3⟩ := HY.out.2.2 i hi
            exact ⟨g2, a2, q2, c2', hA2, f1, f2, HT.out.sp f3⟩
          · have i3 : ¬ (j : Int) < k0 := by omega
            go_wp2_with fail
            exact ⟨⟨k + 1, by omega, by go_num, HY.out.1⟩, by simp [intOf]; omega⟩
      · have i1 : ¬ (k : Int) < 2 := by omega
        have HZ := Lib.hid (H1.out.2.trans (HW.out.mono H1.out.2.size))
        go_wp2_with fail
        refine (same_fit n c c1 A A1 b wr ((HP.out.1.below HZ.out HP.out.2.1).more (Nat.le_trans HP.out.2.1 HZ.out.size)) (own_bytes7 H1.out.1 HP.out.1.2.1 HW.out) (by omega)).mono ?_
        rintro e v1 ⟨rfl, b2⟩
        have G1 := Lib.hid (below_next HZ.out b2)
        clear b2
        go_wp2_with fail
        refine (works7_any _).mono ?_
        rintro e v2 ⟨rfl, b2⟩
        have G2 := Lib.hid (below_next G1.out b2)
        clear b2
        go_wp2_with fail
        go_ret
        exact ⟨rfl, G2.out⟩
end Go.Proofs.Ytnokbnobnhkmgaa
