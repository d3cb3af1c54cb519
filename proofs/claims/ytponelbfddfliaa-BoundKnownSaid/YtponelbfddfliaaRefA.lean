/- Layer 4's reference: what comes after a beginning. -/
import Derived.Test.YtponelbfddfliaaRefP
import Derived.Laws.Cover1
namespace Go.Proofs.Ytponelbfddfliaa
open Go.ChangeShapes Go.WideShapes Go.ChangeAt Go.RowKit

theorem core_ffs (x : List Nat) (k : Nat) (h : x = [] ∨ ∃ q c, x = q ++ [c] ∧ c ≠ 255) : Ky.core (x ++ List.replicate k 255) = x := by
  unfold Ky.core
  rw [List.reverse_append, List.reverse_replicate]
  have hd : ∀ (k : Nat) (r : List Nat), (List.replicate k 255 ++ r).dropWhile (· == 255) = r.dropWhile (· == 255) := by
    intro k r
    induction k with
    | zero => rfl
    | succ k ih => rw [List.replicate_succ, List.cons_append, List.dropWhile_cons, if_pos (by rfl), ih]
  rw [hd]
  rcases h with rfl | ⟨q, c, rfl, hc⟩
  · rfl
  · rw [List.reverse_append, List.reverse_singleton, List.singleton_append, List.dropWhile_cons, if_neg (by simpa using hc)]
    simp
theorem ffs_step (l : List Nat) (j : Nat) (hj : j < l.length) (h : l = l.take (j + 1) ++ List.replicate (l.length - (j + 1)) 255) (hx : l.getD j 0 = 255) : l = l.take j ++ List.replicate (l.length - j) 255 := by
  have e : l.length - j = l.length - (j + 1) + 1 := by omega
  rw [e, List.replicate_succ]
  rw [take_snoc l j hj, hx] at h
  simpa using h
theorem nums_take (s : ByteArray) (i : Nat) : nums (s.extract 0 i) = (nums s).take i := by
  simp [nums, List.map_take, List.extract_eq_take_drop]
/-- A text, and whether there is one. -/
def TextB (w : World) (o : Option (List Nat)) (e : Ending) (w' : World) : Prop := ∃ T : ByteArray, e = .returned (.tuple #[.string T, .bool o.isSome]) ∧ nums T = o.getD [] ∧ Below w.heap.size w w'
set_option maxRecDepth 100000 in
set_option maxHeartbeats 2000000 in
theorem refAfter_any (s : ByteArray) (w : World) (hs : s.size ≤ 1000000) : Calls Try.prog 51 #[.string s] w (TextB w (Ky.after (nums s))) := by
  go_enter Try.func51, Try.ntmps51
  go_wp2_with fail
  go_loopw [4] (fun i wr => ∃ j : Nat, j ≤ s.size ∧ i = .int .i64 (j : Int) ∧ nums s = (nums s).take j ++ List.replicate ((nums s).length - j) 255 ∧ wr = w) (fun i _ => (intOf i).toNat)
  case atStart => exact ⟨s.size, Nat.le_refl _, rfl, by rw [nums_len, Nat.sub_self, List.take_of_length_le (by rw [nums_len]; omega)]; simp, rfl⟩
  case round =>
    obtain ⟨i, hi, rfl, he, rfl⟩ := hrel
    have HE := Lib.hid he
    clear he
    rcases Nat.eq_zero_or_pos i with h0 | h0
    · subst h0
      have hcore : Ky.core (nums s) = [] := by
        rw [HE.out]
        exact core_ffs _ _ (.inl (List.take_zero ..))
      have ha : Ky.after (nums s) = none := by unfold Ky.after; rw [if_pos hcore]
      have HA := Lib.hid ha
      clear ha hcore
      go_wp2_with fail
      go_ret2
      exact ⟨⟨#[]⟩, by rw [HA.out]; rfl, by rw [HA.out]; rfl, Below.refl _ _⟩
    · obtain ⟨j, rfl⟩ : ∃ j, i = j + 1 := ⟨i - 1, by omega⟩
      have hj : j < s.size := by omega
      have hat := nums_at s j hj
      by_cases hx : s[j].toNat = 255
      · have hst := ffs_step (nums s) j (by rw [nums_len]; exact hj) HE.out (by rw [hat]; exact hx)
        have HST := Lib.hid hst
        clear hst hat
        go_wp2_with fail
        refine ⟨⟨j, by omega, rfl, HST.out, trivial⟩, ?_⟩
        simp [intOf]
      · have hxl : s[j].toNat < 256 := s[j].toNat_lt
        have htk := take_snoc (nums s) j (by rw [nums_len]; exact hj)
        rw [hat] at htk
        have hcore : Ky.core (nums s) = (nums s).take j ++ [s[j].toNat] := by
          have h1 := HE.out
          rw [htk] at h1
          rw [h1]
          rw [core_ffs _ _ (.inr ⟨_, _, rfl, hx⟩), ← h1]
        have ha : Ky.after (nums s) = some ((nums s).take j ++ [s[j].toNat + 1]) := by
          unfold Ky.after
          rw [hcore, if_neg (by simp)]
          simp
        have HA := Lib.hid ha
        have hxb : ((s[j].toNat : Int) == 255) = false := by rw [beq_eq_false_iff_ne]; omega
        have hx3 : ¬ (s[j].toNat : Int) = 255 := by omega
        have hn0 : (((j + 1 : Nat) : Int) == 0) = false := by rw [beq_eq_false_iff_ne]; omega
        have hn1 : (((j : Int) + 1) == 0) = false := by rw [beq_eq_false_iff_ne]; omega
        have hw1 : IntKind.i64.wrap (((j + 1 : Nat) : Int) - 1) = (j : Int) := by rw [IntKind.wrap_i64]; omega
        have hw2 : IntKind.i64.wrap (((j : Int) + 1) - 1) = (j : Int) := by rw [IntKind.wrap_i64]; omega
        have hw3 : IntKind.i64.wrap (j : Int) = (j : Int) := by rw [IntKind.wrap_i64]; omega
        have hw8 : IntKind.u8.wrap ((s[j].toNat : Int) + 1) = ((s[j].toNat + 1 : Nat) : Int) := by rw [IntKind.wrap_u8']; omega
        have hj0 : (0 : Int) ≤ j := by omega
        have hj1 : (j : Int) < s.size := by omega
        have hj2 : (j : Int) ≤ s.size := by omega
        clear hat htk hcore ha hx
        have hby := bytes_one wr 5 (s[j].toNat + 1) (by omega)
        have hcv := conv_bytes (c := 1) hby.drew
        rw [show ((s[j].toNat + 1 : Nat) : Int) = (s[j].toNat : Int) + 1 from rfl] at hcv
        obtain ⟨T, hT, hTs, hrun⟩ : ∃ T, nums T = [s[j].toNat + 1] ∧ T.size = 1 ∧ (convert 46 9 (.slice (some ⟨wr.heap.size, 0, none⟩) 1 1)).run Try.prog (wr.alloc (.cells #[.int .u8 ((s[j].toNat : Int) + 1)] 5)).drew = .ok (.string T) (wr.alloc (.cells #[.int .u8 ((s[j].toNat : Int) + 1)] 5)).drew := ⟨_, hcv.1, hcv.2.1, hcv.2.2⟩
        have hes : (s.extract 0 j).size ≤ 1000000 := by
          have := nums_take s j
          have h2 := congrArg List.length this
          rw [nums_len, List.length_take, nums_len] at h2
          omega
        have hen := nums_take s j
        obtain ⟨E, hE⟩ : ∃ E, s.extract 0 j = E := ⟨_, rfl⟩
        rw [hE] at hes hen
        have hsz : E.size + T.size ≤ 9223372036854775807 := by omega
        have hsn : ¬ 9223372036854775807 < E.size + T.size := by omega
        have HEN := Lib.hid hen
        clear hen
        have HT := Lib.hid (And.intro hT hTs)
        clear hby hcv hT hTs
        go_wp2_with fail
        go_region_with (fail)
        go_wp2_with fail
        go_ret2
        exact ⟨E ++ T, by rw [HA.out]; rfl, by rw [HA.out, nums_append, HEN.out, HT.out.1]; rfl, ((Below.refl _ _).alloc (Nat.le_refl _) _).drew⟩
end Go.Proofs.Ytponelbfddfliaa
