/- The document's other answers; sums of rows of numbers. -/
import Derived.Test.YthnmphaehalceaaNumC
import Derived.Test.YthnmphaehalceaaInts
namespace Go.Proofs.Ythnmphaehalceaa
open Go.ChangeShapes Go.WideShapes Go.ChangeAt Go.RowKit

set_option maxHeartbeats 400000 in
theorem refAbs_any (a : Int) (w : World) (ha : -9223372036854775808 ≤ a ∧ a ≤ 9223372036854775807) :
    Calls Try.prog 15 #[.int .i64 a] w (TwoBB (fitN (absN a)) (fitB (absN a)) w) := by
  unfold absN
  by_cases h : a < 0
  · rw [if_pos h]
    have hs := refSub_any 0 a w (by decide) ha
    rw [Int.zero_sub] at hs
    go_enter Try.func15, Try.ntmps15
    go_wp2_with (go_at_call 11; (with_reducible refine hs.mono ?_); rintro e w' ⟨rfl, b1⟩)
    go_ret2
    exact ⟨rfl, b1⟩
  · rw [if_neg h, (fit_yes ha).1, (fit_yes ha).2]
    go_enter Try.func15, Try.ntmps15
    go_wp2
    go_ret2
    exact ⟨rfl, Below.refl _ _⟩
set_option maxHeartbeats 400000 in
theorem refClamp_any (a b c : Int) (w : World) :
    Calls Try.prog 17 #[.int .i64 a, .int .i64 b, .int .i64 c] w fun e w' => e = .returned (.int .i64 (clampN a b c)) ∧ w = w' := by
  go_enter Try.func17, Try.ntmps17
  go_wp2
  all_goals
    go_ret
    refine ⟨ret_int ?_, rfl⟩
    unfold clampN
    repeat' split
    all_goals omega
set_option maxHeartbeats 400000 in
theorem refFloorDiv_any (n d : Int) (w : World) (hn : -9223372036854775808 ≤ n ∧ n ≤ 9223372036854775807) (hd : -9223372036854775808 ≤ d ∧ d ≤ 9223372036854775807) :
    Calls Try.prog 22 #[.int .i64 n, .int .i64 d] w (TwoE (flD n d) (flE d) w) := by
  unfold flD flE
  by_cases h : 0 < d
  · rw [if_pos h, if_pos h]
    have hq := ediv_in n d h hn
    by_cases h0 : 0 ≤ n
    · go_enter Try.func22, Try.ntmps22
      go_wp2
      go_ret2
      exact ⟨rfl, rfl⟩
    · have hx := (floor_neg n d h).1
      rw [hx] at hq ⊢
      have q1 : wrap64 (-(n + 1).tdiv d) = -(n + 1) / d := by
        rw [← Int.neg_tdiv, Int.tdiv_eq_ediv_of_nonneg (by omega)]
        exact IntWalk.wrap64_in _ (ediv_in _ d h (by omega))
      have q2 : wrap64 (-1 - -(n + 1) / d) = -1 - -(n + 1) / d := IntWalk.wrap64_in _ hq
      clear hx hq
      go_enter Try.func22, Try.ntmps22
      go_wp2
      go_ret2
      exact ⟨rfl, rfl⟩
  · rw [if_neg h, if_neg h]
    go_enter Try.func22, Try.ntmps22
    go_wp2
    go_ret2
    exact ⟨rfl, rfl⟩
set_option maxHeartbeats 400000 in
theorem refFloorMod_any (n d : Int) (w : World) (hn : -9223372036854775808 ≤ n ∧ n ≤ 9223372036854775807) (hd : -9223372036854775808 ≤ d ∧ d ≤ 9223372036854775807) :
    Calls Try.prog 24 #[.int .i64 n, .int .i64 d] w (TwoE (flM n d) (flE d) w) := by
  unfold flM flE
  by_cases h : 0 < d
  · rw [if_pos h, if_pos h]
    have h2 := Int.emod_nonneg n (by omega : d ≠ 0)
    have h3 := Int.emod_lt_of_pos n h
    by_cases h0 : 0 ≤ n
    · go_enter Try.func24, Try.ntmps24
      go_wp2
      go_ret2
      exact ⟨rfl, rfl⟩
    · have hx := (floor_neg n d h).2
      rw [hx] at h2 h3 ⊢
      have q1 : wrap64 (d - 1 + (n + 1).tmod d) = d - 1 - -(n + 1) % d := by
        have e : (-(n + 1)).tmod d = -(n + 1) % d := Int.tmod_eq_emod_of_nonneg (by omega)
        rw [Int.neg_tmod] at e
        rw [IntWalk.wrap64_in _ (by omega)]
        omega
      clear hx h2 h3
      go_enter Try.func24, Try.ntmps24
      go_wp2
      go_ret2
      exact ⟨rfl, rfl⟩
  · rw [if_neg h, if_neg h]
    go_enter Try.func24, Try.ntmps24
    go_wp2
    go_ret2
    exact ⟨rfl, rfl⟩
def TwoEB (n k : Int) (w : World) (e : Ending) (w' : World) : Prop := e = .returned (.tuple #[.int .i64 n, .int .i64 k]) ∧ Below w.heap.size w w'
set_option maxHeartbeats 400000 in
theorem refDown_any (n d : Int) (w : World) (hn : -9223372036854775808 ≤ n ∧ n ≤ 9223372036854775807) (hd : -9223372036854775808 ≤ d ∧ d ≤ 9223372036854775807) :
    Calls Try.prog 26 #[.int .i64 n, .int .i64 d] w (TwoEB (dnN n d) (dnE n d) w) := by
  have hfd := refFloorDiv_any n d w hn hd
  unfold dnN dnE
  unfold flD flE at hfd
  by_cases h : 0 < d
  · rw [if_pos h, if_pos h]
    rw [if_pos h, if_pos h] at hfd
    have hm := refMul_any (n / d) d w (ediv_in n d h hn) hd
    rw [Int.mul_comm (n / d) d] at hm
    rcases hb : fitB (d * (n / d)) with _ | _
    · rw [if_neg (by decide)]
      rw [hb] at hm
      have hz : fitN (d * (n / d)) = 0 := (fit_no (fun hf => by rw [(fit_yes hf).1] at hb; cases hb)).2
      rw [hz] at hm ⊢
      clear hz hb
      go_enter Try.func26, Try.ntmps26
      go_wp2_with (first | (go_at_call 22; (with_reducible refine hfd.mono ?_); rintro e w' ⟨rfl, rfl⟩) | (go_at_call 13; (with_reducible refine hm.mono ?_); rintro e w' ⟨rfl, b1⟩))
      go_ret2
      exact ⟨rfl, b1⟩
    · rw [if_pos rfl]
      rw [hb] at hm
      clear hb
      go_enter Try.func26, Try.ntmps26
      go_wp2_with (first | (go_at_call 22; (with_reducible refine hfd.mono ?_); rintro e w' ⟨rfl, rfl⟩) | (go_at_call 13; (with_reducible refine hm.mono ?_); rintro e w' ⟨rfl, b1⟩))
      go_ret2
      exact ⟨rfl, b1⟩
  · rw [if_neg h, if_neg h]
    rw [if_neg h, if_neg h] at hfd
    go_enter Try.func26, Try.ntmps26
    go_wp2_with (go_at_call 22; (with_reducible refine hfd.mono ?_); rintro e w' ⟨rfl, rfl⟩)
    go_ret2
    exact ⟨rfl, Below.refl _ _⟩
/-- What the first k numbers are together. -/
def tot (l : List Int) (k : Nat) : Int := (l.take k).sum
theorem tot_zero (l : List Int) : tot l 0 = 0 := rfl
theorem tot_step {l : List Int} {k : Nat} (h : k < l.length) : tot l (k + 1) = tot l k + l.getD k 0 := by
  unfold tot
  rw [List.take_succ_eq_append_getElem h, List.sum_append, List.getD_eq_getElem?_getD, List.getElem?_eq_getElem h]
  simp
theorem tot_all (l : List Int) : tot l l.length = l.sum := by unfold tot; rw [List.take_length]
theorem tot_room {l : List Int} (hl : ∀ x ∈ l, -9223372036854775808 ≤ x ∧ x ≤ 9223372036854775807) (k : Nat) (hk : k ≤ l.length) : -(9223372036854775808 * (k : Int)) ≤ tot l k ∧ tot l k ≤ 9223372036854775808 * (k : Int) := by
  induction k with
  | zero => rw [tot_zero]; omega
  | succ k ih =>
    rw [tot_step (by omega)]
    have h1 := ih (by omega)
    have h2 : -9223372036854775808 ≤ l.getD k 0 ∧ l.getD k 0 ≤ 9223372036854775807 := by
      rw [List.getD_eq_getElem?_getD, List.getElem?_eq_getElem (by omega)]
      exact hl _ (List.getElem_mem _)
    omega
def sumE (t : Int) : Int := if fitB t = true then 0 else 30
/-- What the closure's two variables stand for: a sum, and how often it ran over. -/
def SumI (w : World) (s o : Nat) (T : Int) (k : Nat) : Prop := ∃ x v : Int, Blk w s 2 #[.int .i64 x] ∧ Blk w o 2 #[.int .i64 v] ∧ (-9223372036854775808 ≤ x ∧ x ≤ 9223372036854775807) ∧ T = x + 18446744073709551616 * v ∧ -(k : Int) ≤ v ∧ v ≤ (k : Int)
def AddP (B s o : Nat) (T : Int) (k : Nat) (w : World) (e : Ending) (w' : World) : Prop := e = .returned (.tuple #[]) ∧ SumI w' s o T k ∧ Below B w w'
set_option maxRecDepth 100000 in
set_option maxHeartbeats 1000000 in
theorem sumAdd_any (n T : Int) (B s o k : Nat) (w : World) (hn : -9223372036854775808 ≤ n ∧ n ≤ 9223372036854775807) (h : SumI w s o T k) (hso : s ≠ o) (hs : B ≤ s) (ho : B ≤ o) (hk : k ≤ 1000000) :
    Calls Try.prog 32 #[.int .i64 n, .pointer (some ⟨s, 0, none⟩), .pointer (some ⟨o, 0, none⟩)] w (AddP B s o (T + n) (k + 1) w) := by
  obtain ⟨x, v, b1, b2, hx, rfl, hv⟩ := h
  have c1 := b1.cell 0
  have c2 := b2.cell 0
  have f1 := b1.frozen 0
  have f2 := b2.frozen 0
  have hE : ∀ (x' v' : Int), -9223372036854775808 ≤ x' ∧ x' ≤ 9223372036854775807 → x + 18446744073709551616 * v + n = x' + 18446744073709551616 * v' → -((k + 1 : Nat) : Int) ≤ v' → v' ≤ ((k + 1 : Nat) : Int) → AddP B s o (x + 18446744073709551616 * v + n) (k + 1) w (.returned (.tuple #[])) ((w.setCell ⟨s, 0, none⟩ (.int .i64 x')).setCell ⟨o, 0, none⟩ (.int .i64 v')) := fun x' v' r1 r2 r3 r4 =>
    ⟨rfl, ⟨x', v', (b1.set_ 0 _).far hso.symm _, (b2.far hso _).set_ 0 _, r1, r2, r3, r4⟩, ((Below.refl _ _).setCell hs _).setCell ho _⟩
  have hF : ∀ (x' : Int), -9223372036854775808 ≤ x' ∧ x' ≤ 9223372036854775807 → x + 18446744073709551616 * v + n = x' + 18446744073709551616 * v → AddP B s o (x + 18446744073709551616 * v + n) (k + 1) w (.returned (.tuple #[])) (w.setCell ⟨s, 0, none⟩ (.int .i64 x')) := fun x' r1 r2 =>
    ⟨rfl, ⟨x', v, b1.set_ 0 _, b2.far hso _, r1, r2, by omega, by omega⟩, (Below.refl _ _).setCell hs _⟩
  have HE := Lib.hid hE
  have HF := Lib.hid hF
  clear hE hF b1 b2
  by_cases h1 : 9223372036854775807 < x + n
  · have e1 : wrap64 (x + n) = x + n - 18446744073709551616 := by unfold wrap64; omega
    go_enter Try.func32, Try.ntmps32
    go_wp2
    go_end0
    exact HE.out _ _ (by omega) (by omega) (by omega) (by omega)
  by_cases h2 : x + n < -9223372036854775808
  · have e1 : wrap64 (x + n) = x + n + 18446744073709551616 := by unfold wrap64; omega
    go_enter Try.func32, Try.ntmps32
    go_wp2
    go_end0
    exact HE.out _ _ (by omega) (by omega) (by omega) (by omega)
  by_cases h3 : 0 < n
  · go_enter Try.func32, Try.ntmps32
    go_wp2
    go_end0
    exact HF.out _ (by omega) (by omega)
  by_cases h4 : n < 0
  · go_enter Try.func32, Try.ntmps32
    go_wp2
    go_end0
    exact HF.out _ (by omega) (by omega)
  · go_enter Try.func32, Try.ntmps32
    go_wp2
    go_end0
    exact HF.out _ (by omega) (by omega)
theorem sum_tell {x v : Int} (hx : -9223372036854775808 ≤ x ∧ x ≤ 9223372036854775807) : (v = 0 → fitN (x + 18446744073709551616 * v) = x ∧ sumE (x + 18446744073709551616 * v) = 0) ∧ (v ≠ 0 → fitN (x + 18446744073709551616 * v) = 0 ∧ sumE (x + 18446744073709551616 * v) = 30) := by
  refine ⟨fun h => ?_, fun h => ?_⟩
  · subst h
    rw [Int.mul_zero, Int.add_zero]
    exact ⟨(fit_yes hx).2, by unfold sumE; rw [if_pos (fit_yes hx).1]⟩
  · have hf : ¬ (-9223372036854775808 ≤ x + 18446744073709551616 * v ∧ x + 18446744073709551616 * v ≤ 9223372036854775807) := by omega
    exact ⟨(fit_no hf).2, by unfold sumE; rw [(fit_no hf).1, if_neg (by decide)]⟩
set_option maxRecDepth 100000 in
set_option maxHeartbeats 1000000 in
theorem sum_any (n c B : Nat) (A : Option Addr) (l : List Int) (w : World) (h : Ints w B A n l) (hB : B ≤ w.heap.size) (hn : n ≤ 1000000) :
    Calls Try.prog 19 #[.slice A n c] w (TwoEB (fitN l.sum) (sumE l.sum) w) := by
  have hn2 := new_two w 2 #[.int .i64 0] #[.int .i64 0]
  have h0 : SumI ((w.alloc (.cells #[.int .i64 0] 2)).alloc (.cells #[.int .i64 0] 2)) w.heap.size (w.heap.size + 1) (tot l 0) 0 := ⟨0, 0, hn2.1, hn2.2.1, by decide, rfl, by decide, by decide⟩
  have hb0 := hn2.2.2.2
  have H0 := Lib.hid (And.intro h0 hb0)
  clear h0 hb0 hn2
  have hE : ∀ (wr : World), Below w.heap.size w wr → SumI wr w.heap.size (w.heap.size + 1) (tot l n) n → ∃ x v : Int, wr.cell? ⟨w.heap.size, 0, none⟩ = some (.int .i64 x) ∧ wr.cell? ⟨w.heap.size + 1, 0, none⟩ = some (.int .i64 v) ∧ (v = 0 → fitN l.sum = x ∧ sumE l.sum = 0) ∧ (v ≠ 0 → fitN l.sum = 0 ∧ sumE l.sum = 30) := fun wr _ ⟨x, v, k1, k2, k3, k4, _, _⟩ => ⟨x, v, k1.cell 0, k2.cell 0, by
    rw [← tot_all, h.1, k4]
    exact sum_tell k3⟩
  have HE := Lib.hid hE
  clear hE
  rcases Nat.eq_zero_or_pos n with hz | hz
  case' inl =>
    subst hz
    go_enter Try.func19, Try.ntmps19
    go_wp2_with fail
    go_loopw [12] (fun i wr => i = .int .i64 0 ∧ SumI wr w.heap.size (w.heap.size + 1) (tot l 0) 0 ∧ Below w.heap.size w wr) (fun _ _ => 0)
    case atStart => exact ⟨rfl, H0.out⟩
    case' round =>
      obtain ⟨rfl, hs, hb⟩ := hrel
  case' inr =>
    obtain ⟨b, off, rfl, hbB, hc⟩ := h.2.2 hz
    have hr := h.at_
    have HR := Lib.hid hr
    have HC := Lib.hid hc
    have HL := Lib.hid h.1
    clear hc hr h
    go_enter Try.func19, Try.ntmps19
    go_wp2_with fail
    go_loopw [12] (fun i wr => ∃ k : Nat, k ≤ n ∧ i = .int .i64 (k : Int) ∧ SumI wr w.heap.size (w.heap.size + 1) (tot l k) k ∧ Below w.heap.size w wr) (fun i _ => n - (intOf i).toNat)
    case atStart => exact ⟨0, by omega, rfl, H0.out⟩
    case' round =>
      obtain ⟨k, hk, rfl, hs, hb⟩ := hrel
      rcases Nat.lt_or_ge k n with hlt | hge
      case inl =>
        have hc : wr.cell? ⟨b, off + k, none⟩ = some (.int .i64 (l.getD k 0)) := (hb.cell (p := ⟨b, off + k, none⟩) (by show b < w.heap.size; omega)).trans (HC.out k hlt)
        have hr := HR.out k
        have et := Lib.hid (tot_step (l := l) (k := k) (by rw [HL.out]; exact hlt))
        have HS := Lib.hid (And.intro hs hb)
        clear hs hb
        go_wp2_with fail
        refine (sumAdd_any _ _ w.heap.size _ _ k _ hr HS.out.1 (by omega) (by omega) (by omega) (by omega)).mono ?_
        rintro e w1 ⟨rfl, s1, b1⟩
        rw [← et.out] at s1
        have H1 := Lib.hid (And.intro s1 (HS.out.2.trans b1))
        clear s1 b1
        go_wp2_with fail
        go_roundw
        case rel => exact ⟨k + 1, by omega, by go_num, H1.out⟩
        case measure => simp [intOf]; omega
      case' inr =>
        obtain rfl : k = n := by omega
  all_goals
    obtain ⟨x, v, c1, c2, t1, t2⟩ := HE.out _ hb hs
    have HB := Lib.hid hb
    clear hb hs
    by_cases hv : v = 0
    · subst hv
      have T := Lib.hid (t1 rfl)
      clear t1 t2
      go_wp2_with fail
      go_ret2
      unfold TwoEB
      rw [T.out.1, T.out.2]
      exact ⟨rfl, HB.out⟩
    · have T := Lib.hid (t2 hv)
      clear t1 t2
      have hv' : (v != 0) = true := by simpa using hv
      go_wp2_with fail
      go_ret2
      unfold TwoEB
      rw [T.out.1, T.out.2]
      exact ⟨rfl, HB.out⟩
end Go.Proofs.Ythnmphaehalceaa
