/- The document's sum, the program's sum, and its sum of two, alone. -/
import Derived.Test.YtaahlepgmcgcfaaMem
import Derived.Test.YtaahlepgmcgcfaaNm
import Derived.Test.YtaahlepgmcgcfaaInts
import Derived.WalkLawsBesides
namespace Go.Proofs.Ytaahlepgmcgcfaa
open Go.ChangeShapes Go.WideShapes Go.ChangeAt Go.RowKit

/-- Two answers: a number, and whether it fits; a number, and an error. -/
def TwoB (n : Int) (b : Bool) (w : World) (e : Ending) (w' : World) : Prop := e = .returned (.tuple #[.int .i64 n, .bool b]) ∧ w = w'
set_option maxHeartbeats 400000 in
theorem add_any (a b : Int) (w : World) (ha : -9223372036854775808 ≤ a ∧ a ≤ 9223372036854775807) (hb : -9223372036854775808 ≤ b ∧ b ≤ 9223372036854775807) :
    Calls Try.prog 39 #[.int .i64 a, .int .i64 b] w (TwoB (fitN (a + b)) (fitB (a + b)) w) := by
  have hs := add_sign a b ha hb
  by_cases hf : -9223372036854775808 ≤ a + b ∧ a + b ≤ 9223372036854775807
  · rw [(fit_yes hf).1, IntWalk.wrap64_in _ hf, Bool.not_true] at hs
    rw [(fit_yes hf).1, (fit_yes hf).2]
    go_enter Try.func39, Try.ntmps39
    go_wp2
    go_ret2
    exact ⟨rfl, rfl⟩
  · rw [(fit_no hf).1, Bool.not_false] at hs
    rw [(fit_no hf).1, (fit_no hf).2]
    go_enter Try.func39, Try.ntmps39
    go_wp2
    go_ret2
    exact ⟨rfl, rfl⟩
/-- A wide number is answered; only new memory is made. -/
def WideP (m : Int) (w : World) (e : Ending) (w' : World) : Prop := e = .returned (.agg #[.int .i64 (pA m), .int .i64 (pB m), .int .i64 (pC m), .int .i64 (pD m)]) ∧ Below w.heap.size w w'
def Small (a : Int) : Prop := -1099511627776 ≤ a ∧ a ≤ 1099511627776
set_option maxRecDepth 100000 in
set_option maxHeartbeats 1000000 in
theorem settle_any (a b c d : Int) (w : World) (ha : Small a) (hb : Small b) (hc : Small c) (hd : Small d) :
    Calls Try.prog 58 #[.agg #[.int .i64 a, .int .i64 b, .int .i64 c, .int .i64 d]] w (WideP (num4 a b c d) w) := by
  have e1 := and_low a
  have e2 := and_low (b + a / 4294967296)
  have e3 := and_low (c + (b + a / 4294967296) / 4294967296)
  have hA := settle_A a b c d
  have hB := settle_B a b c d
  have hC := settle_C a b c d
  have hD := settle_D a b c d
  unfold WideP
  rw [← hA, ← hB, ← hC, ← hD]
  clear hA hB hC hD
  unfold Small at ha hb hc hd
  go_enter Try.func58, Try.ntmps58
  go_wp2
  exact bodyPost_ret (v := .agg #[.int .i64 (a % 4294967296), .int .i64 ((b + a / 4294967296) % 4294967296), .int .i64 ((c + (b + a / 4294967296) / 4294967296) % 4294967296), .int .i64 (d + (c + (b + a / 4294967296) / 4294967296) / 4294967296)]) (by simp [results, Try.results58, go_sem]) rfl ⟨rfl, ((Below.refl _ _).alloc (Nat.le_refl _) _).alloc (by simp) _⟩
theorem bcell {W w1 : World} (hb : Below W.heap.size W w1) : (∀ b o, b < W.heap.size → w1.cell? ⟨b, o, none⟩ = W.cell? ⟨b, o, none⟩) ∧ (∀ b o, b < W.heap.size → w1.frozen? ⟨b, o, none⟩ = W.frozen? ⟨b, o, none⟩) :=
  ⟨fun b o h => hb.cell (p := ⟨b, o, none⟩) h, fun b o h => hb.frozen (p := ⟨b, o, none⟩) h⟩
theorem below_four {w w1 : World} {g : Nat} (hb : Below w.heap.size w w1) (hg : w.heap.size ≤ g) (a b c d : Value) : Below w.heap.size w ((((w1.setCell ⟨g, 0, none⟩ a).setCell ⟨g, 1, none⟩ b).setCell ⟨g, 2, none⟩ c).setCell ⟨g, 3, none⟩ d) :=
  (((hb.setCell hg a).setCell hg b).setCell hg c).setCell hg d
set_option maxRecDepth 100000 in
set_option maxHeartbeats 1000000 in
theorem of_any (n : Int) (w : World) (hn : -9223372036854775808 ≤ n ∧ n ≤ 9223372036854775807) :
    Calls Try.prog 54 #[.int .i64 n] w (WideP n w) := by
  have e1 := and_low n
  have hst := fun W => settle_any (n % 4294967296) (n / 4294967296) 0 0 W (by unfold Small; omega) (by unfold Small; omega) (by unfold Small; omega) (by unfold Small; omega)
  rw [num4_of] at hst
  go_enter Try.func54, Try.ntmps54
  go_wp2_with (go_at_call 58; (with_reducible refine (hst _).mono ?_); rintro e w1 ⟨rfl, hb⟩; obtain ⟨hc, hf⟩ := bcell hb; have hz : w.heap.size < w1.heap.size := by (have := hb.size; simp at this; omega))
  exact bodyPost_ret (v := .agg #[.int .i64 (pA n), .int .i64 (pB n), .int .i64 (pC n), .int .i64 (pD n)]) (by simp [results, Try.results54, go_sem, hc]) rfl ⟨rfl, below_four (((Below.refl _ _).alloc (Nat.le_refl _) _).trans (hb.mono (by simp))) (Nat.le_refl _) _ _ _ _⟩
set_option maxRecDepth 100000 in
set_option maxHeartbeats 1000000 in
theorem plus_any (m n : Int) (w : World) (hm : Room m) (hn : Room n) :
    Calls Try.prog 53 #[.agg #[.int .i64 (pA m), .int .i64 (pB m), .int .i64 (pC m), .int .i64 (pD m)], .agg #[.int .i64 (pA n), .int .i64 (pB n), .int .i64 (pC n), .int .i64 (pD n)]] w (WideP (m + n) w) := by
  have a1 := pA_in m
  have a2 := pB_in m
  have a3 := pC_in m
  have a4 := pD_in m hm
  have b1 := pA_in n
  have b2 := pB_in n
  have b3 := pC_in n
  have b4 := pD_in n hn
  have hst := fun W => settle_any (pA m + pA n) (pB m + pB n) (pC m + pC n) (pD m + pD n) W (by unfold Small; omega) (by unfold Small; omega) (by unfold Small; omega) (by unfold Small; omega)
  rw [num4_plus] at hst
  go_enter Try.func53, Try.ntmps53
  go_wp2_with (go_at_call 58; (with_reducible refine (hst _).mono ?_); rintro e w1 ⟨rfl, hb⟩; obtain ⟨hc, hf⟩ := bcell hb; have hz : w.heap.size + 2 < w1.heap.size := by (have := hb.size; simp at this; omega))
  exact bodyPost_ret (v := .agg #[.int .i64 (pA (m + n)), .int .i64 (pB (m + n)), .int .i64 (pC (m + n)), .int .i64 (pD (m + n))]) (by simp [results, Try.results53, go_sem, hc]) rfl ⟨rfl, below_four (((((Below.refl _ _).alloc (Nat.le_refl _) _).alloc (by simp) _).alloc (by simp; omega) _).trans (hb.mono (by simp; omega))) (by omega) _ _ _ _⟩
theorem eql_wide (m n : Int) (W : World) : (binOp .eql 89 (.agg #[.int .i64 (pA n), .int .i64 (pB n), .int .i64 (pC n), .int .i64 (pD n)]) (.agg #[.int .i64 (pA m), .int .i64 (pB m), .int .i64 (pC m), .int .i64 (pD m)])).run Try.prog W = .ok (.bool (decide (n = m))) W := by
  have hs : Try.prog.stoodInHeld 89 = false := by kernel_rfl
  rw [run_eql_struct, run_equalIn_agg _ _ _ _ _ (by kernel_rfl) hs]
  unfold Program.fieldsOf
  rw [Try.underlying89]
  by_cases h : n = m
  · subst h
    simp [go_sem]
  · have : decide (n = m) = false := decide_eq_false h
    rw [this]
    simp [go_sem]
    exact fun a b c d => h (places_eq a b c d)
theorem cells4 {w : World} {g : Nat} {t : TypeId} {a b c d : Value} (h : Blk w g t #[a, b, c, d]) : w.cell? ⟨g, 0, none⟩ = some a ∧ w.cell? ⟨g, 1, none⟩ = some b ∧ w.cell? ⟨g, 2, none⟩ = some c ∧ w.cell? ⟨g, 3, none⟩ = some d :=
  ⟨h.cell 0, h.cell 1, h.cell 2, h.cell 3⟩
/-- A number, and whether it is the wide one. -/
def TwoBB (n : Int) (b : Bool) (w : World) (e : Ending) (w' : World) : Prop := e = .returned (.tuple #[.int .i64 n, .bool b]) ∧ Below w.heap.size w w'
set_option maxRecDepth 100000 in
set_option maxHeartbeats 1000000 in
theorem back_wide (m : Int) (w : World) (hm : Room m) :
    Calls Try.prog 59 #[.agg #[.int .i64 (pA m), .int .i64 (pB m), .int .i64 (pC m), .int .i64 (pD m)]] w (TwoBB (wrap64 m) (fitB m) w) := by
  have a1 := pA_in m
  have a2 := pB_in m
  have a3 := pC_in m
  have a4 := pD_in m hm
  have ho := or_parts (pB m) (pA m) a1 a2
  rw [low_two] at ho
  go_enter Try.func59, Try.ntmps59
  go_wp2
  obtain ⟨W, hW⟩ : ∃ W, w.alloc (.cells #[.int .i64 (pA m), .int .i64 (pB m), .int .i64 (pC m), .int .i64 (pD m)] 89) = W := ⟨_, rfl⟩
  have k0 : Blk W w.heap.size 89 #[.int .i64 (pA m), .int .i64 (pB m), .int .i64 (pC m), .int .i64 (pD m)] := by rw [← hW]; exact Blk.new _ _ _
  have d0 : Below w.heap.size w W := by rw [← hW]; exact (Below.refl _ _).alloc (Nat.le_refl _) _
  rw [hW]
  clear hW
  have x0 := cells4 k0
  have K0 := Lib.hid k0
  have D0 := Lib.hid d0
  clear k0 d0
  have ho := of_any (wrap64 m) W.drew (by unfold wrap64; omega)
  have he := fun V => eql_wide m (wrap64 m) V
  have hw : decide (wrap64 m = m) = fitB m := by unfold fitB; exact decide_eq_decide.mpr (wrap_fits m)
  rw [hw] at he
  have HO := Lib.hid ho
  clear ho hw
  go_region_held3 (fun w' => w'.cell? ⟨w.heap.size, 0, none⟩ = some (.int .i64 (pA m)) ∧ w'.cell? ⟨w.heap.size, 1, none⟩ = some (.int .i64 (pB m)) ∧ w'.cell? ⟨w.heap.size, 2, none⟩ = some (.int .i64 (pC m)) ∧ w'.cell? ⟨w.heap.size, 3, none⟩ = some (.int .i64 (pD m))) (first | exact x0 | exact x1) (first
    | (go_at_call 54; (with_reducible refine (HO.out).mono ?_); rintro e w1 ⟨rfl, b1⟩; have x1 := cells4 ((show Blk W.drew w.heap.size 89 _ from K0.out).below b1 (K0.out.lt)); have D1 := Lib.hid (D0.out.drew.trans (b1.mono D0.out.drew.size)); clear b1))
  all_goals
    go_wp2_with fail
    go_ret2
    exact ⟨rfl, D1.out⟩
set_option maxRecDepth 100000 in
set_option maxHeartbeats 1000000 in
theorem fit_any (m : Int) (w : World) (hm : Room m) :
    Calls Try.prog 55 #[.agg #[.int .i64 (pA m), .int .i64 (pB m), .int .i64 (pC m), .int .i64 (pD m)]] w (TwoBB (fitN m) (fitB m) w) := by
  by_cases hf : -9223372036854775808 ≤ m ∧ m ≤ 9223372036854775807
  · have hbk := fun W => back_wide m W hm
    rw [(fit_yes hf).1, IntWalk.wrap64_in _ hf] at hbk
    rw [(fit_yes hf).1, (fit_yes hf).2]
    go_enter Try.func55, Try.ntmps55
    go_wp2_with (go_at_call 59; (with_reducible refine (hbk _).mono ?_); rintro e w1 ⟨rfl, hb⟩)
    go_ret2
    exact ⟨rfl, ((Below.refl _ _).alloc (Nat.le_refl _) _).trans (hb.mono (by simp))⟩
  · have hbk := fun W => back_wide m W hm
    rw [(fit_no hf).1] at hbk
    rw [(fit_no hf).1, (fit_no hf).2]
    go_enter Try.func55, Try.ntmps55
    go_wp2_with (go_at_call 59; (with_reducible refine (hbk _).mono ?_); rintro e w1 ⟨rfl, hb⟩)
    go_ret2
    exact ⟨rfl, ((Below.refl _ _).alloc (Nat.le_refl _) _).trans (hb.mono (by simp))⟩
theorem room64 {n : Int} (h : -9223372036854775808 ≤ n ∧ n ≤ 9223372036854775807) : Room n := by unfold Room; omega
/-- The cells of a wide number. -/
def wcs (m : Int) : Array Value := #[.int .i64 (pA m), .int .i64 (pB m), .int .i64 (pC m), .int .i64 (pD m)]
theorem Blk.four {w : World} {g : Nat} {t : TypeId} {p q r s : Value} (h : Blk w g t #[p, q, r, s]) (a b c d : Value) : Blk ((((w.setCell ⟨g, 0, none⟩ a).setCell ⟨g, 1, none⟩ b).setCell ⟨g, 2, none⟩ c).setCell ⟨g, 3, none⟩ d) g t #[a, b, c, d] :=
  (((h.set_ 0 a).set_ 1 b).set_ 2 c).set_ 3 d
theorem froz4 {w : World} {g : Nat} {t : TypeId} {cs : Array Value} (h : Blk w g t cs) : w.frozen? ⟨g, 0, none⟩ = false ∧ w.frozen? ⟨g, 1, none⟩ = false ∧ w.frozen? ⟨g, 2, none⟩ = false ∧ w.frozen? ⟨g, 3, none⟩ = false :=
  ⟨h.frozen 0, h.frozen 1, h.frozen 2, h.frozen 3⟩
theorem new_two (w : World) (t : TypeId) (c1 c2 : Array Value) : Blk ((w.alloc (.cells c1 t)).alloc (.cells c2 t)) w.heap.size t c1 ∧ Blk ((w.alloc (.cells c1 t)).alloc (.cells c2 t)) (w.heap.size + 1) t c2 ∧ ((w.alloc (.cells c1 t)).alloc (.cells c2 t)).heap.size = w.heap.size + 2 ∧ Below w.heap.size w ((w.alloc (.cells c1 t)).alloc (.cells c2 t)) := by
  have h := Blk.new (w.alloc (.cells c1 t)) t c2
  have e : (w.alloc (.cells c1 t)).heap.size = w.heap.size + 1 := by simp
  rw [e] at h
  exact ⟨(Blk.new w t c1).below ((Below.refl (w.heap.size + 1) _).alloc (by omega) _) (by omega), h, by simp, ((Below.refl _ _).alloc (Nat.le_refl _) _).alloc (by omega) _⟩
def TwoEB (n k : Int) (w : World) (e : Ending) (w' : World) : Prop := e = .returned (.tuple #[.int .i64 n, .int .i64 k]) ∧ Below w.heap.size w w'
/-- What the first k numbers are together. -/
def tot (l : List Int) (k : Nat) : Int := (l.take k).sum
theorem tot_zero (l : List Int) : tot l 0 = 0 := rfl
theorem tot_step {l : List Int} {k : Nat} (h : k < l.length) : tot l (k + 1) = tot l k + l.getD k 0 := by
  unfold tot
  rw [List.take_succ_eq_append_getElem h, List.sum_append, List.getD_eq_getElem?_getD, List.getElem?_eq_getElem h]
  simp
theorem tot_all (l : List Int) : tot l l.length = l.sum := by unfold tot; rw [List.take_length]
theorem tot_room {l : List Int} (hl : ∀ x ∈ l, -9223372036854775808 ≤ x ∧ x ≤ 9223372036854775807) (k : Nat) (hk : k ≤ l.length) : -(9223372036854775808 * (k : Int)) ≤ tot l k ∧ tot l k ≤ 9223372036854775808 * (k : Int) := by
  induction k with
  | zero => rw [tot_zero]; omega
  | succ k ih =>
    rw [tot_step (by omega)]
    have h1 := ih (by omega)
    have h2 : -9223372036854775808 ≤ l.getD k 0 ∧ l.getD k 0 ≤ 9223372036854775807 := by
      rw [List.getD_eq_getElem?_getD, List.getElem?_eq_getElem (by omega)]
      exact hl _ (List.getElem_mem _)
    omega
def sumE (t : Int) : Int := if fitB t = true then 0 else 30
/-- What the closure's two variables stand for: a sum, and how often it ran over. -/
def SumI (w : World) (s o : Nat) (T : Int) (k : Nat) : Prop := ∃ x v : Int, Blk w s 2 #[.int .i64 x] ∧ Blk w o 2 #[.int .i64 v] ∧ (-9223372036854775808 ≤ x ∧ x ≤ 9223372036854775807) ∧ T = x + 18446744073709551616 * v ∧ -(k : Int) ≤ v ∧ v ≤ (k : Int)
def AddP (B s o : Nat) (T : Int) (k : Nat) (w : World) (e : Ending) (w' : World) : Prop := e = .returned (.tuple #[]) ∧ SumI w' s o T k ∧ Below B w w'
set_option maxRecDepth 100000 in
set_option maxHeartbeats 1000000 in
theorem sumAdd_any (n T : Int) (B s o k : Nat) (w : World) (hn : -9223372036854775808 ≤ n ∧ n ≤ 9223372036854775807) (h : SumI w s o T k) (hso : s ≠ o) (hs : B ≤ s) (ho : B ≤ o) (hk : k ≤ 1000000) :
    Calls Try.prog 50 #[.int .i64 n, .pointer (some ⟨s, 0, none⟩), .pointer (some ⟨o, 0, none⟩)] w (AddP B s o (T + n) (k + 1) w) := by
  obtain ⟨x, v, b1, b2, hx, rfl, hv⟩ := h
  have c1 := b1.cell 0
  have c2 := b2.cell 0
  have f1 := b1.frozen 0
  have f2 := b2.frozen 0
  have hE : ∀ (x' v' : Int), -9223372036854775808 ≤ x' ∧ x' ≤ 9223372036854775807 → x + 18446744073709551616 * v + n = x' + 18446744073709551616 * v' → -((k + 1 : Nat) : Int) ≤ v' → v' ≤ ((k + 1 : Nat) : Int) → AddP B s o (x + 18446744073709551616 * v + n) (k + 1) w (.returned (.tuple #[])) ((w.setCell ⟨s, 0, none⟩ (.int .i64 x')).setCell ⟨o, 0, none⟩ (.int .i64 v')) := fun x' v' r1 r2 r3 r4 =>
    ⟨rfl, ⟨x', v', (b1.set_ 0 _).far hso.symm _, (b2.far hso _).set_ 0 _, r1, r2, r3, r4⟩, ((Below.refl _ _).setCell hs _).setCell ho _⟩
  have hF : ∀ (x' : Int), -9223372036854775808 ≤ x' ∧ x' ≤ 9223372036854775807 → x + 18446744073709551616 * v + n = x' + 18446744073709551616 * v → AddP B s o (x + 18446744073709551616 * v + n) (k + 1) w (.returned (.tuple #[])) (w.setCell ⟨s, 0, none⟩ (.int .i64 x')) := fun x' r1 r2 =>
    ⟨rfl, ⟨x', v, b1.set_ 0 _, b2.far hso _, r1, r2, by omega, by omega⟩, (Below.refl _ _).setCell hs _⟩
  have HE := Lib.hid hE
  have HF := Lib.hid hF
  clear hE hF b1 b2
  by_cases h1 : 9223372036854775807 < x + n
  · have e1 : wrap64 (x + n) = x + n - 18446744073709551616 := by unfold wrap64; omega
    go_enter Try.func50, Try.ntmps50
    go_wp2
    go_end0
    exact HE.out _ _ (by omega) (by omega) (by omega) (by omega)
  by_cases h2 : x + n < -9223372036854775808
  · have e1 : wrap64 (x + n) = x + n + 18446744073709551616 := by unfold wrap64; omega
    go_enter Try.func50, Try.ntmps50
    go_wp2
    go_end0
    exact HE.out _ _ (by omega) (by omega) (by omega) (by omega)
  by_cases h3 : 0 < n
  · go_enter Try.func50, Try.ntmps50
    go_wp2
    go_end0
    exact HF.out _ (by omega) (by omega)
  by_cases h4 : n < 0
  · go_enter Try.func50, Try.ntmps50
    go_wp2
    go_end0
    exact HF.out _ (by omega) (by omega)
  · go_enter Try.func50, Try.ntmps50
    go_wp2
    go_end0
    exact HF.out _ (by omega) (by omega)
theorem sum_tell {x v : Int} (hx : -9223372036854775808 ≤ x ∧ x ≤ 9223372036854775807) : (v = 0 → fitN (x + 18446744073709551616 * v) = x ∧ sumE (x + 18446744073709551616 * v) = 0) ∧ (v ≠ 0 → fitN (x + 18446744073709551616 * v) = 0 ∧ sumE (x + 18446744073709551616 * v) = 30) := by
  refine ⟨fun h => ?_, fun h => ?_⟩
  · subst h
    rw [Int.mul_zero, Int.add_zero]
    exact ⟨(fit_yes hx).2, by unfold sumE; rw [if_pos (fit_yes hx).1]⟩
  · have hf : ¬ (-9223372036854775808 ≤ x + 18446744073709551616 * v ∧ x + 18446744073709551616 * v ≤ 9223372036854775807) := by omega
    exact ⟨(fit_no hf).2, by unfold sumE; rw [(fit_no hf).1, if_neg (by decide)]⟩
set_option maxRecDepth 100000 in
set_option maxHeartbeats 1000000 in
theorem sum_any (n c B : Nat) (A : Option Addr) (l : List Int) (w : World) (h : Ints w B A n l) (hB : B ≤ w.heap.size) (hn : n ≤ 1000000) :
    Calls Try.prog 34 #[.slice A n c] w (TwoEB (fitN l.sum) (sumE l.sum) w) := by
  have hn2 := new_two w 2 #[.int .i64 0] #[.int .i64 0]
  have h0 : SumI ((w.alloc (.cells #[.int .i64 0] 2)).alloc (.cells #[.int .i64 0] 2)) w.heap.size (w.heap.size + 1) (tot l 0) 0 := ⟨0, 0, hn2.1, hn2.2.1, by decide, rfl, by decide, by decide⟩
  have hb0 := hn2.2.2.2
  have H0 := Lib.hid (And.intro h0 hb0)
  clear h0 hb0 hn2
  have hE : ∀ (wr : World), Below w.heap.size w wr → SumI wr w.heap.size (w.heap.size + 1) (tot l n) n → ∃ x v : Int, wr.cell? ⟨w.heap.size, 0, none⟩ = some (.int .i64 x) ∧ wr.cell? ⟨w.heap.size + 1, 0, none⟩ = some (.int .i64 v) ∧ (v = 0 → fitN l.sum = x ∧ sumE l.sum = 0) ∧ (v ≠ 0 → fitN l.sum = 0 ∧ sumE l.sum = 30) := fun wr _ ⟨x, v, k1, k2, k3, k4, _, _⟩ => ⟨x, v, k1.cell 0, k2.cell 0, by
    rw [← tot_all, h.1, k4]
    exact sum_tell k3⟩
  have HE := Lib.hid hE
  clear hE
  rcases Nat.eq_zero_or_pos n with hz | hz
  case' inl =>
    subst hz
    go_enter Try.func34, Try.ntmps34
    go_wp2_with fail
    go_loopw [12] (fun i wr => i = .int .i64 0 ∧ SumI wr w.heap.size (w.heap.size + 1) (tot l 0) 0 ∧ Below w.heap.size w wr) (fun _ _ => 0)
    case atStart => exact ⟨rfl, H0.out⟩
    case' round =>
      obtain ⟨rfl, hs, hb⟩ := hrel
  case' inr =>
    obtain ⟨b, off, rfl, hbB, hc⟩ := h.2.2 hz
    have hr := h.at_
    have HR := Lib.hid hr
    have HC := Lib.hid hc
    have HL := Lib.hid h.1
    clear hc hr h
    go_enter Try.func34, Try.ntmps34
    go_wp2_with fail
    go_loopw [12] (fun i wr => ∃ k : Nat, k ≤ n ∧ i = .int .i64 (k : Int) ∧ SumI wr w.heap.size (w.heap.size + 1) (tot l k) k ∧ Below w.heap.size w wr) (fun i _ => n - (intOf i).toNat)
    case atStart => exact ⟨0, by omega, rfl, H0.out⟩
    case' round =>
      obtain ⟨k, hk, rfl, hs, hb⟩ := hrel
      rcases Nat.lt_or_ge k n with hlt | hge
      case inl =>
        have hc : wr.cell? ⟨b, off + k, none⟩ = some (.int .i64 (l.getD k 0)) := (hb.cell (p := ⟨b, off + k, none⟩) (by show b < w.heap.size; omega)).trans (HC.out k hlt)
        have hr := HR.out k
        have et := Lib.hid (tot_step (l := l) (k := k) (by rw [HL.out]; exact hlt))
        have HS := Lib.hid (And.intro hs hb)
        clear hs hb
        go_wp2_with fail
        refine (sumAdd_any _ _ w.heap.size _ _ k _ hr HS.out.1 (by omega) (by omega) (by omega) (by omega)).mono ?_
        rintro e w1 ⟨rfl, s1, b1⟩
        rw [← et.out] at s1
        have H1 := Lib.hid (And.intro s1 (HS.out.2.trans b1))
        clear s1 b1
        go_wp2_with fail
        go_roundw
        case rel => exact ⟨k + 1, by omega, by go_num, H1.out⟩
        case measure => simp [intOf]; omega
      case' inr =>
        obtain rfl : k = n := by omega
  all_goals
    obtain ⟨x, v, c1, c2, t1, t2⟩ := HE.out _ hb hs
    have HB := Lib.hid hb
    clear hb hs
    by_cases hv : v = 0
    · subst hv
      have T := Lib.hid (t1 rfl)
      clear t1 t2
      go_wp2_with fail
      go_ret2
      unfold TwoEB
      rw [T.out.1, T.out.2]
      exact ⟨rfl, HB.out⟩
    · have T := Lib.hid (t2 hv)
      clear t1 t2
      have hv' : (v != 0) = true := by simpa using hv
      go_wp2_with fail
      go_ret2
      unfold TwoEB
      rw [T.out.1, T.out.2]
      exact ⟨rfl, HB.out⟩
set_option maxRecDepth 100000 in
set_option maxHeartbeats 2000000 in
theorem refSum_any (n c B : Nat) (A : Option Addr) (l : List Int) (w : World) (h : Ints w B A n l) (hB : B ≤ w.heap.size) (hn : n ≤ 1000000) :
    Calls Try.prog 51 #[.slice A n c] w (TwoEB (fitN l.sum) (sumE l.sum) w) := by
  have hr : ∀ k, k ≤ n → Room (tot l k) := fun k hk => by
    have := tot_room h.2.1 k (by rw [h.1]; exact hk)
    unfold Room
    omega
  have e0 : wcs (tot l 0) = #[.int .i64 0, .int .i64 0, .int .i64 0, .int .i64 0] := rfl
  have h0 : Blk (w.alloc (.cells #[.int .i64 0, .int .i64 0, .int .i64 0, .int .i64 0] 89)) w.heap.size 89 (wcs (tot l 0)) := by rw [e0]; exact Blk.new _ _ _
  have b0 : Below w.heap.size w (w.alloc (.cells #[.int .i64 0, .int .i64 0, .int .i64 0, .int .i64 0] 89)) := (Below.refl _ _).alloc (Nat.le_refl _) _
  have H0 := Lib.hid (And.intro h0 b0)
  have HT := Lib.hid (show tot l n = l.sum by rw [← tot_all, h.1])
  clear h0 b0 e0
  rcases Nat.eq_zero_or_pos n with hz | hz
  case' inl =>
    subst hz
    go_enter Try.func51, Try.ntmps51
    go_wp2_with fail
    go_loopw [5] (fun i wr => i = .int .i64 0 ∧ Blk wr w.heap.size 89 (wcs (tot l 0)) ∧ Below w.heap.size w wr) (fun _ _ => 0)
    case atStart => exact ⟨rfl, H0.out⟩
    case' round =>
      obtain ⟨rfl, hs, hb⟩ := hrel
      have hrn := hr 0 (Nat.le_refl _)
  case' inr =>
    obtain ⟨b, off, rfl, hbB, hc⟩ := h.2.2 hz
    have hat := h.at_
    have HR := Lib.hid hat
    have HC := Lib.hid hc
    have HL := Lib.hid h.1
    have HRM := Lib.hid hr
    clear hc hat h hr
    go_enter Try.func51, Try.ntmps51
    go_wp2_with fail
    go_loopw [5] (fun i wr => ∃ k : Nat, k ≤ n ∧ i = .int .i64 (k : Int) ∧ Blk wr w.heap.size 89 (wcs (tot l k)) ∧ Below w.heap.size w wr) (fun i _ => n - (intOf i).toNat)
    case atStart => exact ⟨0, by omega, rfl, H0.out⟩
    case' round =>
      obtain ⟨k, hk, rfl, hs, hb⟩ := hrel
      rcases Nat.lt_or_ge k n with hlt | hge
      case inl =>
        obtain ⟨z, hzz⟩ : ∃ z, z = l.getD k 0 := ⟨_, rfl⟩
        have hcl : ∀ {v : World}, Below w.heap.size w v → v.cell? ⟨b, off + k, none⟩ = some (.int .i64 (z)) := fun hv => (hv.cell (p := ⟨b, off + k, none⟩) (by show b < w.heap.size; omega)).trans (by rw [hzz]; exact HC.out k hlt)
        have hr := HR.out k
        rw [← hzz] at hr
        have rk := HRM.out k hk
        have rn : Room (z) := room64 hr
        have et := tot_step (l := l) (k := k) (by rw [HL.out]; exact hlt)
        rw [← hzz] at et
        have ET := Lib.hid et
        clear et hzz
        have x0 : wr.cell? ⟨b, off + k, none⟩ = some (.int .i64 (z)) ∧ wr.cell? ⟨w.heap.size, 0, none⟩ = some (.int .i64 (pA (tot l k))) ∧ wr.cell? ⟨w.heap.size, 1, none⟩ = some (.int .i64 (pB (tot l k))) ∧ wr.cell? ⟨w.heap.size, 2, none⟩ = some (.int .i64 (pC (tot l k))) ∧ wr.cell? ⟨w.heap.size, 3, none⟩ = some (.int .i64 (pD (tot l k))) := ⟨hcl hb, cells4 hs⟩
        have HCL := Lib.hid (fun (v : World) (hv : Below w.heap.size w v) (hs : Blk v w.heap.size 89 (wcs (tot l k))) => And.intro (hcl hv) (cells4 hs))
        have HO := Lib.hid (of_any (z) wr.drew hr)
        have HP := Lib.hid (fun v => plus_any (tot l k) (z) v rk rn)
        have HS := Lib.hid (And.intro (show Blk wr.drew w.heap.size 89 (wcs (tot l k)) from hs) hb.drew)
        clear hs hb hcl
        go_wp2_with fail
        have x0' : wr.drew.cell? ⟨b, off + k, none⟩ = some (.int .i64 z) ∧ wr.drew.cell? ⟨w.heap.size, 0, none⟩ = some (.int .i64 (pA (tot l k))) ∧ wr.drew.cell? ⟨w.heap.size, 1, none⟩ = some (.int .i64 (pB (tot l k))) ∧ wr.drew.cell? ⟨w.heap.size, 2, none⟩ = some (.int .i64 (pC (tot l k))) ∧ wr.drew.cell? ⟨w.heap.size, 3, none⟩ = some (.int .i64 (pD (tot l k))) := x0
        go_region_with (first
          | (go_at_call 54; (with_reducible refine HO.out.mono ?_); rintro e w1 ⟨rfl, b1⟩; have s1 := HS.out.1.below b1 HS.out.1.lt; have d1 := below_next HS.out.2 b1; have x1 := HCL.out _ d1 s1; have H1 := Lib.hid (And.intro s1 d1); clear s1 d1 b1)
          | (go_at_call 53; (with_reducible refine (HP.out _).mono ?_); rintro e w2 ⟨rfl, b2⟩; have s2 := H1.out.1.below b2 H1.out.1.lt; have d2 := below_next H1.out.2 b2; have x2 := HCL.out _ d2 s2; have f2 := froz4 s2; have H2 := Lib.hid (And.intro s2 d2); clear s2 d2 b2))
        all_goals
          obtain ⟨V2, hV2⟩ : ∃ V, (((w2.setCell ⟨w.heap.size, 0, none⟩ (.int .i64 (pA (tot l k + z)))).setCell ⟨w.heap.size, 1, none⟩ (.int .i64 (pB (tot l k + z)))).setCell ⟨w.heap.size, 2, none⟩ (.int .i64 (pC (tot l k + z)))).setCell ⟨w.heap.size, 3, none⟩ (.int .i64 (pD (tot l k + z))) = V := ⟨_, rfl⟩
          have s3 : Blk V2 w.heap.size 89 (wcs (tot l k + z)) := by rw [← hV2]; exact H2.out.1.four _ _ _ _
          have d3 : Below w.heap.size w V2 := by rw [← hV2]; exact below_four H2.out.2 (Nat.le_refl _) _ _ _ _
          rw [← ET.out] at s3
          have H3 := Lib.hid (And.intro s3 d3)
          clear s3 d3 x1 x2 x0 x0' f2
          go_wp2_with fail
          go_roundw
          case rel => exact ⟨k + 1, by omega, by go_num, H3.out⟩
          case measure => simp [intOf]; omega
      case' inr =>
        obtain rfl : k = n := by omega
        have hrn := HRM.out k (Nat.le_refl _)
  all_goals
    rw [HT.out] at hs hrn
    have c1 := cells4 hs
    have HB := Lib.hid hb
    have hf := fun v => fit_any _ v hrn
    clear hb hs
    rcases hft : fitB l.sum with _ | _
    · have T : Hid (fitN l.sum = 0 ∧ sumE l.sum = 30) := Lib.hid ⟨(fit_no (fun h => by rw [(fit_yes h).1] at hft; cases hft)).2, by unfold sumE; rw [hft, if_neg (by decide)]⟩
      rw [hft] at hf
      clear hft
      go_wp2_with fail
      refine (hf _).mono ?_
      rintro e w4 ⟨rfl, b4⟩
      have B4 := Lib.hid b4
      clear b4
      go_wp2_with fail
      go_ret2
      unfold TwoEB
      rw [T.out.1, T.out.2]
      exact ⟨rfl, below_next HB.out B4.out⟩
    · have T : Hid (sumE l.sum = 0) := Lib.hid (by unfold sumE; rw [hft, if_pos rfl])
      rw [hft] at hf
      clear hft
      go_wp2_with fail
      refine (hf _).mono ?_
      rintro e w4 ⟨rfl, b4⟩
      have B4 := Lib.hid b4
      clear b4
      go_wp2_with fail
      go_ret2
      unfold TwoEB
      rw [T.out]
      exact ⟨rfl, below_next HB.out B4.out⟩
end Go.Proofs.Ytaahlepgmcgcfaa
