/- The document's wide numbers: what settle, of, plus, less, back and fit answer. -/
import Derived.Test.YthnmphaehalceaaNumA
namespace Go.Proofs.Ythnmphaehalceaa
open Go.ChangeShapes Go.WideShapes Go.ChangeAt Go.RowKit

/-- A wide number is answered; only new memory is made. -/
def WideP (m : Int) (w : World) (e : Ending) (w' : World) : Prop := e = .returned (.agg #[.int .i64 (pA m), .int .i64 (pB m), .int .i64 (pC m), .int .i64 (pD m)]) ∧ Below w.heap.size w w'
def Small (a : Int) : Prop := -1099511627776 ≤ a ∧ a ≤ 1099511627776
set_option maxRecDepth 100000 in
set_option maxHeartbeats 1000000 in
theorem settle_any (a b c d : Int) (w : World) (ha : Small a) (hb : Small b) (hc : Small c) (hd : Small d) :
    Calls Try.prog 34 #[.agg #[.int .i64 a, .int .i64 b, .int .i64 c, .int .i64 d]] w (WideP (num4 a b c d) w) := by
  have e1 := and_low a
  have e2 := and_low (b + a / 4294967296)
  have e3 := and_low (c + (b + a / 4294967296) / 4294967296)
  have hA := settle_A a b c d
  have hB := settle_B a b c d
  have hC := settle_C a b c d
  have hD := settle_D a b c d
  unfold WideP
  rw [← hA, ← hB, ← hC, ← hD]
  clear hA hB hC hD
  unfold Small at ha hb hc hd
  go_enter Try.func34, Try.ntmps34
  go_wp2
  exact bodyPost_ret (v := .agg #[.int .i64 (a % 4294967296), .int .i64 ((b + a / 4294967296) % 4294967296), .int .i64 ((c + (b + a / 4294967296) / 4294967296) % 4294967296), .int .i64 (d + (c + (b + a / 4294967296) / 4294967296) / 4294967296)]) (by simp [results, Try.results34, go_sem]) rfl ⟨rfl, ((Below.refl _ _).alloc (Nat.le_refl _) _).alloc (by simp) _⟩
theorem bcell {W w1 : World} (hb : Below W.heap.size W w1) : (∀ b o, b < W.heap.size → w1.cell? ⟨b, o, none⟩ = W.cell? ⟨b, o, none⟩) ∧ (∀ b o, b < W.heap.size → w1.frozen? ⟨b, o, none⟩ = W.frozen? ⟨b, o, none⟩) :=
  ⟨fun b o h => hb.cell (p := ⟨b, o, none⟩) h, fun b o h => hb.frozen (p := ⟨b, o, none⟩) h⟩
theorem below_four {w w1 : World} {g : Nat} (hb : Below w.heap.size w w1) (hg : w.heap.size ≤ g) (a b c d : Value) : Below w.heap.size w ((((w1.setCell ⟨g, 0, none⟩ a).setCell ⟨g, 1, none⟩ b).setCell ⟨g, 2, none⟩ c).setCell ⟨g, 3, none⟩ d) :=
  (((hb.setCell hg a).setCell hg b).setCell hg c).setCell hg d
set_option maxRecDepth 100000 in
set_option maxHeartbeats 1000000 in
theorem of_any (n : Int) (w : World) (hn : -9223372036854775808 ≤ n ∧ n ≤ 9223372036854775807) :
    Calls Try.prog 30 #[.int .i64 n] w (WideP n w) := by
  have e1 := and_low n
  have hst := fun W => settle_any (n % 4294967296) (n / 4294967296) 0 0 W (by unfold Small; omega) (by unfold Small; omega) (by unfold Small; omega) (by unfold Small; omega)
  rw [num4_of] at hst
  go_enter Try.func30, Try.ntmps30
  go_wp2_with (go_at_call 34; (with_reducible refine (hst _).mono ?_); rintro e w1 ⟨rfl, hb⟩; obtain ⟨hc, hf⟩ := bcell hb; have hz : w.heap.size < w1.heap.size := by (have := hb.size; simp at this; omega))
  exact bodyPost_ret (v := .agg #[.int .i64 (pA n), .int .i64 (pB n), .int .i64 (pC n), .int .i64 (pD n)]) (by simp [results, Try.results30, go_sem, hc]) rfl ⟨rfl, below_four (((Below.refl _ _).alloc (Nat.le_refl _) _).trans (hb.mono (by simp))) (Nat.le_refl _) _ _ _ _⟩
set_option maxRecDepth 100000 in
set_option maxHeartbeats 1000000 in
theorem plus_any (m n : Int) (w : World) (hm : Room m) (hn : Room n) :
    Calls Try.prog 29 #[.agg #[.int .i64 (pA m), .int .i64 (pB m), .int .i64 (pC m), .int .i64 (pD m)], .agg #[.int .i64 (pA n), .int .i64 (pB n), .int .i64 (pC n), .int .i64 (pD n)]] w (WideP (m + n) w) := by
  have a1 := pA_in m
  have a2 := pB_in m
  have a3 := pC_in m
  have a4 := pD_in m hm
  have b1 := pA_in n
  have b2 := pB_in n
  have b3 := pC_in n
  have b4 := pD_in n hn
  have hst := fun W => settle_any (pA m + pA n) (pB m + pB n) (pC m + pC n) (pD m + pD n) W (by unfold Small; omega) (by unfold Small; omega) (by unfold Small; omega) (by unfold Small; omega)
  rw [num4_plus] at hst
  go_enter Try.func29, Try.ntmps29
  go_wp2_with (go_at_call 34; (with_reducible refine (hst _).mono ?_); rintro e w1 ⟨rfl, hb⟩; obtain ⟨hc, hf⟩ := bcell hb; have hz : w.heap.size + 2 < w1.heap.size := by (have := hb.size; simp at this; omega))
  exact bodyPost_ret (v := .agg #[.int .i64 (pA (m + n)), .int .i64 (pB (m + n)), .int .i64 (pC (m + n)), .int .i64 (pD (m + n))]) (by simp [results, Try.results29, go_sem, hc]) rfl ⟨rfl, below_four (((((Below.refl _ _).alloc (Nat.le_refl _) _).alloc (by simp) _).alloc (by simp; omega) _).trans (hb.mono (by simp; omega))) (by omega) _ _ _ _⟩
set_option maxRecDepth 100000 in
set_option maxHeartbeats 1000000 in
theorem less_any (m : Int) (w : World) (hm : Room m) :
    Calls Try.prog 31 #[.agg #[.int .i64 (pA m), .int .i64 (pB m), .int .i64 (pC m), .int .i64 (pD m)]] w (WideP (-m) w) := by
  have a1 := pA_in m
  have a2 := pB_in m
  have a3 := pC_in m
  have a4 := pD_in m hm
  have hst := fun W => settle_any (-pA m) (-pB m) (-pC m) (-pD m) W (by unfold Small; omega) (by unfold Small; omega) (by unfold Small; omega) (by unfold Small; omega)
  rw [num4_less] at hst
  go_enter Try.func31, Try.ntmps31
  go_wp2_with (go_at_call 34; (with_reducible refine (hst _).mono ?_); rintro e w1 ⟨rfl, hb⟩; obtain ⟨hc, hf⟩ := bcell hb; have hz : w.heap.size + 1 < w1.heap.size := by (have := hb.size; simp at this; omega))
  exact bodyPost_ret (v := .agg #[.int .i64 (pA (-m)), .int .i64 (pB (-m)), .int .i64 (pC (-m)), .int .i64 (pD (-m))]) (by simp [results, Try.results31, go_sem, hc]) rfl ⟨rfl, below_four ((((Below.refl _ _).alloc (Nat.le_refl _) _).alloc (by simp) _).trans (hb.mono (by simp; omega))) (by omega) _ _ _ _⟩
theorem eql_wide (m n : Int) (W : World) : (binOp .eql 40 (.agg #[.int .i64 (pA n), .int .i64 (pB n), .int .i64 (pC n), .int .i64 (pD n)]) (.agg #[.int .i64 (pA m), .int .i64 (pB m), .int .i64 (pC m), .int .i64 (pD m)])).run Try.prog W = .ok (.bool (decide (n = m))) W := by
  have hs : Try.prog.stoodInHeld 40 = false := by kernel_rfl
  rw [run_eql_struct, run_equalIn_agg _ _ _ _ _ (by kernel_rfl) hs]
  unfold Program.fieldsOf
  rw [Try.underlying40]
  by_cases h : n = m
  · subst h
    simp [go_sem]
  · have : decide (n = m) = false := decide_eq_false h
    rw [this]
    simp [go_sem]
    exact fun a b c d => h (places_eq a b c d)
theorem cells4 {w : World} {g : Nat} {t : TypeId} {a b c d : Value} (h : Blk w g t #[a, b, c, d]) : w.cell? ⟨g, 0, none⟩ = some a ∧ w.cell? ⟨g, 1, none⟩ = some b ∧ w.cell? ⟨g, 2, none⟩ = some c ∧ w.cell? ⟨g, 3, none⟩ = some d :=
  ⟨h.cell 0, h.cell 1, h.cell 2, h.cell 3⟩
/-- A number, and whether it is the wide one. -/
def TwoBB (n : Int) (b : Bool) (w : World) (e : Ending) (w' : World) : Prop := e = .returned (.tuple #[.int .i64 n, .bool b]) ∧ Below w.heap.size w w'
set_option maxRecDepth 100000 in
set_option maxHeartbeats 1000000 in
theorem back_wide (m : Int) (w : World) (hm : Room m) :
    Calls Try.prog 33 #[.agg #[.int .i64 (pA m), .int .i64 (pB m), .int .i64 (pC m), .int .i64 (pD m)]] w (TwoBB (wrap64 m) (fitB m) w) := by
  have a1 := pA_in m
  have a2 := pB_in m
  have a3 := pC_in m
  have a4 := pD_in m hm
  have ho := or_parts (pB m) (pA m) a1 a2
  rw [low_two] at ho
  go_enter Try.func33, Try.ntmps33
  go_wp2
  obtain ⟨W, hW⟩ : ∃ W, w.alloc (.cells #[.int .i64 (pA m), .int .i64 (pB m), .int .i64 (pC m), .int .i64 (pD m)] 40) = W := ⟨_, rfl⟩
  have k0 : Blk W w.heap.size 40 #[.int .i64 (pA m), .int .i64 (pB m), .int .i64 (pC m), .int .i64 (pD m)] := by rw [← hW]; exact Blk.new _ _ _
  have d0 : Below w.heap.size w W := by rw [← hW]; exact (Below.refl _ _).alloc (Nat.le_refl _) _
  rw [hW]
  clear hW
  have x0 := cells4 k0
  have K0 := Lib.hid k0
  have D0 := Lib.hid d0
  clear k0 d0
  have ho := of_any (wrap64 m) W.drew (by unfold wrap64; omega)
  have he := fun V => eql_wide m (wrap64 m) V
  have hw : decide (wrap64 m = m) = fitB m := by unfold fitB; exact decide_eq_decide.mpr (wrap_fits m)
  rw [hw] at he
  have HO := Lib.hid ho
  clear ho hw
  go_region_held3 (fun w' => w'.cell? ⟨w.heap.size, 0, none⟩ = some (.int .i64 (pA m)) ∧ w'.cell? ⟨w.heap.size, 1, none⟩ = some (.int .i64 (pB m)) ∧ w'.cell? ⟨w.heap.size, 2, none⟩ = some (.int .i64 (pC m)) ∧ w'.cell? ⟨w.heap.size, 3, none⟩ = some (.int .i64 (pD m))) (first | exact x0 | exact x1) (first
    | (go_at_call 30; (with_reducible refine (HO.out).mono ?_); rintro e w1 ⟨rfl, b1⟩; have x1 := cells4 ((show Blk W.drew w.heap.size 40 _ from K0.out).below b1 (K0.out.lt)); have D1 := Lib.hid (D0.out.drew.trans (b1.mono D0.out.drew.size)); clear b1))
  all_goals
    go_wp2_with fail
    go_ret2
    exact ⟨rfl, D1.out⟩
set_option maxRecDepth 100000 in
set_option maxHeartbeats 1000000 in
theorem fit_any (m : Int) (w : World) (hm : Room m) :
    Calls Try.prog 28 #[.agg #[.int .i64 (pA m), .int .i64 (pB m), .int .i64 (pC m), .int .i64 (pD m)]] w (TwoBB (fitN m) (fitB m) w) := by
  by_cases hf : -9223372036854775808 ≤ m ∧ m ≤ 9223372036854775807
  · have hbk := fun W => back_wide m W hm
    rw [(fit_yes hf).1, IntWalk.wrap64_in _ hf] at hbk
    rw [(fit_yes hf).1, (fit_yes hf).2]
    go_enter Try.func28, Try.ntmps28
    go_wp2_with (go_at_call 33; (with_reducible refine (hbk _).mono ?_); rintro e w1 ⟨rfl, hb⟩)
    go_ret2
    exact ⟨rfl, ((Below.refl _ _).alloc (Nat.le_refl _) _).trans (hb.mono (by simp))⟩
  · have hbk := fun W => back_wide m W hm
    rw [(fit_no hf).1] at hbk
    rw [(fit_no hf).1, (fit_no hf).2]
    go_enter Try.func28, Try.ntmps28
    go_wp2_with (go_at_call 33; (with_reducible refine (hbk _).mono ?_); rintro e w1 ⟨rfl, hb⟩)
    go_ret2
    exact ⟨rfl, ((Below.refl _ _).alloc (Nat.le_refl _) _).trans (hb.mono (by simp))⟩
theorem room64 {n : Int} (h : -9223372036854775808 ≤ n ∧ n ≤ 9223372036854775807) : Room n := by unfold Room; omega
set_option maxHeartbeats 1000000 in
theorem refAdd_any (a b : Int) (w : World) (ha : -9223372036854775808 ≤ a ∧ a ≤ 9223372036854775807) (hb : -9223372036854775808 ≤ b ∧ b ≤ 9223372036854775807) :
    Calls Try.prog 9 #[.int .i64 a, .int .i64 b] w (TwoBB (fitN (a + b)) (fitB (a + b)) w) := by
  go_enter Try.func9, Try.ntmps9
  go_wp2_with fail
  refine (of_any a _ ha).mono ?_
  rintro e w1 ⟨rfl, b1⟩
  go_wp2_with fail
  refine (of_any b _ hb).mono ?_
  rintro e w2 ⟨rfl, b2⟩
  go_wp2_with fail
  refine (plus_any a b _ (room64 ha) (room64 hb)).mono ?_
  rintro e w3 ⟨rfl, b3⟩
  go_wp2_with fail
  refine (fit_any (a + b) _ (by unfold Room; omega)).mono ?_
  rintro e w4 ⟨rfl, b4⟩
  go_wp2_with fail
  go_ret2
  exact ⟨rfl, below_next (below_next (below_next b1 b2) b3) b4⟩
set_option maxHeartbeats 1000000 in
theorem refSub_any (a b : Int) (w : World) (ha : -9223372036854775808 ≤ a ∧ a ≤ 9223372036854775807) (hb : -9223372036854775808 ≤ b ∧ b ≤ 9223372036854775807) :
    Calls Try.prog 11 #[.int .i64 a, .int .i64 b] w (TwoBB (fitN (a - b)) (fitB (a - b)) w) := by
  go_enter Try.func11, Try.ntmps11
  go_wp2_with fail
  refine (of_any a _ ha).mono ?_
  rintro e w1 ⟨rfl, b1⟩
  go_wp2_with fail
  refine (of_any b _ hb).mono ?_
  rintro e w2 ⟨rfl, b2⟩
  go_wp2_with fail
  refine (less_any b _ (room64 hb)).mono ?_
  rintro e w3 ⟨rfl, b3⟩
  go_wp2_with fail
  refine (plus_any a (-b) _ (room64 ha) (by unfold Room; omega)).mono ?_
  rintro e w4 ⟨rfl, b4⟩
  go_wp2_with fail
  refine (fit_any (a + -b) _ (by unfold Room; omega)).mono ?_
  rintro e w5 ⟨rfl, b5⟩
  go_wp2_with fail
  go_ret2
  exact ⟨rfl, below_next (below_next (below_next (below_next b1 b2) b3) b4) b5⟩
end Go.Proofs.Ythnmphaehalceaa
