/- Layer 6, the program: is an operation right? -/
import Derived.Test.YtbcdacfmhjgfiaaEvK
import Derived.Deep.DeepCutAuto
namespace Go.Proofs.Ytbcdacfmhjgfiaa
open Go.ChangeShapes Go.WideShapes Go.ChangeAt Go.RowKit

def timeR (t : Int) : Int := if t < -1099511627776 ∨ 1099511627776 < t then 61 else 0
theorem right_fits_one (s : ByteArray) (t v : Int) : (evFits s = false → Ev.right ⟨1, s, t, v⟩ = 60) ∧ (evFits s = true → Ev.right ⟨1, s, t, v⟩ = timeR t) := by
  rw [Ev.right_one (o := ⟨1, s, t, v⟩) rfl]
  unfold evFits timeR
  dsimp only
  constructor
  · intro h
    rw [if_pos]
    have := of_decide_eq_false h
    omega
  · intro h
    rw [if_neg]
    have := of_decide_eq_true h
    omega
theorem right_fits_two (s : ByteArray) (t v : Int) : (mkFits s v = false → Ev.right ⟨2, s, t, v⟩ = 60) ∧ (mkFits s v = true → Ev.right ⟨2, s, t, v⟩ = timeR t) := by
  rw [Ev.right_two (o := ⟨2, s, t, v⟩) rfl]
  unfold mkFits timeR
  dsimp only
  constructor
  · intro h
    rw [if_pos]
    have := of_decide_eq_false h
    omega
  · intro h
    rw [if_neg]
    have := of_decide_eq_true h
    omega
theorem timeR_low {t : Int} (h : t < -1099511627776) : timeR t = 61 := if_pos (.inl h)
theorem timeR_high {t : Int} (h : 1099511627776 < t) : timeR t = 61 := if_pos (.inr h)
theorem timeR_mid {t : Int} (h : ¬ t < -1099511627776) (h2 : ¬ 1099511627776 < t) : timeR t = 0 := if_neg (by omega)
set_option maxRecDepth 100000 in
set_option maxHeartbeats 2000000 in
theorem pRight6_any (o : Evo) (w : World) : Calls Try.prog 15 #[.agg #[.int .u8 (o.k : Int), .string o.s, .int .i64 o.t, .int .i64 o.v]] w (ErrP w (Ev.right o)) := by
  obtain ⟨k, s, t, v⟩ := o
  dsimp only
  by_cases k1 : k = 1
  · subst k1
    have S0 := Lib.hid ((Held.start w).new #[.int .u8 1, .string s, .int .i64 t, .int .i64 v] 26)
    obtain ⟨R, hR⟩ : ∃ R, Ev.right ⟨1, s, t, v⟩ = R := ⟨_, rfl⟩
    rw [hR, show ((1 : Nat) : Int) = 1 from rfl]
    have HF := Lib.hid (right_fits_one s t v)
    obtain ⟨b, hbf⟩ : ∃ b, evFits s = b := ⟨_, rfl⟩
    rw [hbf, hR] at HF
    clear hR
    have HC := fun W => eventFits_any 1 s t v W
    rw [hbf] at HC
    have HC' := Lib.hid HC
    clear hbf HC
    go_enter Try.func15, Try.ntmps15
    go_wp2_with fail
    refine (kind_one _).mono ?_
    rintro e w1 ⟨rfl, b1⟩
    have S1 := Lib.hid ((S0.out.step b1).new #[fnV 35, fnV 36, fnV 37] 60)
    have hz1 : w.heap.size < w1.heap.size := by have := b1.size; simp at this; omega
    have k1 := (S0.out.step b1).at_ (List.mem_cons_self ..)
    obtain ⟨⟨c0, c1, c2, c3, -⟩, -⟩ := cells9 k1
    simp at c0 c1 c2 c3
    clear b1 k1
    go_upto_region 2 with (fail)
    clear c0 c1 c2 c3
    obtain ⟨W1, hW⟩ : ∃ W, w1.alloc (.cells #[fnV 35, fnV 36, fnV 37] 60) = W := ⟨_, rfl⟩
    rw [hW] at S1 ⊢
    clear hW
    have k2 := S1.out.at_ (List.mem_cons_self ..)
    have k3 := S1.out.at_ (List.mem_cons_of_mem _ (List.mem_cons_self ..))
    obtain ⟨⟨c0, c1, c2, c3, -⟩, -⟩ := cells9 k3
    obtain ⟨d0, d1, d2, -⟩ := cells3 k2
    simp at c0 c1 c2 c3
    clear k2 k3
    go_wp2_with fail
    clear c0 c1 c2 c3 d0 d1 d2
    refine (HC'.out _).mono ?_
    rintro e w2 ⟨rfl, b2⟩
    have S2 := Lib.hid (S1.out.step b2)
    have k3 := S2.out.at_ (List.mem_cons_of_mem _ (List.mem_cons_self ..))
    obtain ⟨⟨c0, c1, c2, c3, -⟩, -⟩ := cells9 k3
    simp at c0 c1 c2 c3
    clear b2 k3
    cases b
    · have HX := Lib.hid (HF.out.1 rfl)
      clear HF
      go_wp2_with fail
      go_ret
      exact ⟨ret_int (HX.out).symm, S2.out.1⟩
    · have hr := HF.out.2 rfl
      have HR := Lib.hid hr
      clear hr HF
      by_cases h3 : t < -1099511627776
      · go_wp2_with fail
        go_ret
        exact ⟨ret_int (by rw [HR.out, timeR_low h3]), S2.out.1⟩
      · by_cases h4 : 1099511627776 < t
        · go_wp2_with fail
          go_ret
          exact ⟨ret_int (by rw [HR.out, timeR_high h4]), S2.out.1⟩
        · go_wp2_with fail
          go_ret
          exact ⟨ret_int (by rw [HR.out, timeR_mid (by omega) (by omega)]), S2.out.1⟩
  by_cases k2 : k = 2
  · subst k2
    clear k1
    have S0 := Lib.hid ((Held.start w).new #[.int .u8 2, .string s, .int .i64 t, .int .i64 v] 26)
    obtain ⟨R, hR⟩ : ∃ R, Ev.right ⟨2, s, t, v⟩ = R := ⟨_, rfl⟩
    rw [hR, show ((2 : Nat) : Int) = 2 from rfl]
    have HF := Lib.hid (right_fits_two s t v)
    obtain ⟨b, hbf⟩ : ∃ b, mkFits s v = b := ⟨_, rfl⟩
    rw [hbf, hR] at HF
    clear hR
    have HC := fun W => markFits_any 2 s t v W
    rw [hbf] at HC
    have HC' := Lib.hid HC
    clear hbf HC
    go_enter Try.func15, Try.ntmps15
    go_wp2_with fail
    refine (kind_two _).mono ?_
    rintro e w1 ⟨rfl, b1⟩
    have S1 := Lib.hid ((S0.out.step b1).new #[fnV 38, fnV 39, fnV 40] 60)
    have hz1 : w.heap.size < w1.heap.size := by have := b1.size; simp at this; omega
    have k1 := (S0.out.step b1).at_ (List.mem_cons_self ..)
    obtain ⟨⟨c0, c1, c2, c3, -⟩, -⟩ := cells9 k1
    simp at c0 c1 c2 c3
    clear b1 k1
    go_upto_region 2 with (fail)
    clear c0 c1 c2 c3
    obtain ⟨W1, hW⟩ : ∃ W, w1.alloc (.cells #[fnV 38, fnV 39, fnV 40] 60) = W := ⟨_, rfl⟩
    rw [hW] at S1 ⊢
    clear hW
    have k2 := S1.out.at_ (List.mem_cons_self ..)
    have k3 := S1.out.at_ (List.mem_cons_of_mem _ (List.mem_cons_self ..))
    obtain ⟨⟨c0, c1, c2, c3, -⟩, -⟩ := cells9 k3
    obtain ⟨d0, d1, d2, -⟩ := cells3 k2
    simp at c0 c1 c2 c3
    clear k2 k3
    go_wp2_with fail
    clear c0 c1 c2 c3 d0 d1 d2
    refine (HC'.out _).mono ?_
    rintro e w2 ⟨rfl, b2⟩
    have S2 := Lib.hid (S1.out.step b2)
    have k3 := S2.out.at_ (List.mem_cons_of_mem _ (List.mem_cons_self ..))
    obtain ⟨⟨c0, c1, c2, c3, -⟩, -⟩ := cells9 k3
    simp at c0 c1 c2 c3
    clear b2 k3
    cases b
    · have HX := Lib.hid (HF.out.1 rfl)
      clear HF
      go_wp2_with fail
      go_ret
      exact ⟨ret_int (HX.out).symm, S2.out.1⟩
    · have hr := HF.out.2 rfl
      have HR := Lib.hid hr
      clear hr HF
      by_cases h3 : t < -1099511627776
      · go_wp2_with fail
        go_ret
        exact ⟨ret_int (by rw [HR.out, timeR_low h3]), S2.out.1⟩
      · by_cases h4 : 1099511627776 < t
        · go_wp2_with fail
          go_ret
          exact ⟨ret_int (by rw [HR.out, timeR_high h4]), S2.out.1⟩
        · go_wp2_with fail
          go_ret
          exact ⟨ret_int (by rw [HR.out, timeR_mid (by omega) (by omega)]), S2.out.1⟩
  · rw [Ev.right_tag (o := ⟨k, s, t, v⟩) k1 k2]
    have S0 := Lib.hid ((Held.start w).new #[.int .u8 (k : Int), .string s, .int .i64 t, .int .i64 v] 26)
    have HK := Lib.hid (fun W => kind_no k W k1 k2)
    clear k1 k2
    go_enter Try.func15, Try.ntmps15
    go_wp2_with fail
    refine (HK.out _).mono ?_
    rintro e w1 ⟨rfl, b1⟩
    have S1 := Lib.hid ((S0.out.step b1).new #[.nilFunc, .nilFunc, .nilFunc] 60)
    have hz1 : w.heap.size < w1.heap.size := by have := b1.size; simp at this; omega
    clear b1
    go_wp2_with fail
    go_ret
    exact ⟨rfl, S1.out.1⟩
end Go.Proofs.Ytbcdacfmhjgfiaa
