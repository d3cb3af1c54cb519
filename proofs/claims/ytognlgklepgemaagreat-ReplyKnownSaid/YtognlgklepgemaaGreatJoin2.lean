/- tidepoolref02 Join. -/
import Derived.Test.YtognlgklepgemaaGreatRd6
namespace Go.Proofs.YtognlgklepgemaaGreat
open Go.ChangeShapes Go.WideShapes Go.ChangeAt Go.RowKit

theorem flat_step {ls : List (List Nat)} {k : Nat} (h : k < ls.length) : (ls.take (k + 1)).flatten = (ls.take k).flatten ++ ls.getD k [] := by
  rw [take_snoc' ls k h, List.flatten_append]; simp
theorem flat_le (ls : List (List Nat)) (k : Nat) : (ls.take k).flatten.length ≤ ls.flatten.length := by
  have : ls.flatten = (ls.take k).flatten ++ (ls.drop k).flatten := by rw [← List.flatten_append, List.take_append_drop]
  rw [this, List.length_append]; omega
/-- The first k rows, joined, are v. -/
def Joined (w wr : World) (ls : List (List Nat)) (k : Nat) (v : Value) : Prop := ∃ A n c, v = .slice A n c ∧ wr.ownsRow w.heap.size 5 1 (.slice A n c) n (u8s (ls.take k).flatten) ∧ Below w.heap.size w wr
set_option maxRecDepth 100000 in
theorem refJoin_any (n c B : Nat) (A : Option Addr) (ls : List (List Nat)) (w : World) (hr : RowsOf w B A n ls) (hB : B ≤ w.heap.size) (hn : n ≤ 1000000) (hl : ls.flatten.length ≤ 1000000) :
    Calls Tryz.prog 59 #[.slice A n c] w (OwnPost w ls.flatten.length ls.flatten) := by
  obtain ⟨i0, hi, hz0, hz1, hz2⟩ := info_parts Tryz.info5
  have HI := Lib.hid hi
  have HZ0 := Lib.hid hz0
  have HZ1 := Lib.hid hz1
  have HZ2 := Lib.hid hz2
  have HL := Lib.hid hr.1
  have HF := Lib.hid hl
  clear hi hz0 hz1 hz2 hl
  go_enter Tryz.func59, Tryz.ntmps59
  go_wp2_with fail
  go_loopw [3, 4] (fun v i wr => ∃ k : Nat, k ≤ n ∧ i = .int .i64 k ∧ Joined w wr ls k v) (fun _ i _ => n - (intOf i).toNat)
  case atStart => exact ⟨0, by omega, rfl, _, _, _, rfl, own_nil _ _ _ _, Below.refl _ _⟩
  case round =>
    obtain ⟨k, hk, rfl, A1, n1, c1, rfl, ho, hb⟩ := hrel
    have hr1 := hr.below hb hB
    by_cases hlt : k < n
    · obtain ⟨b, off, rfl, hbB, hc⟩ := hr1.2 (by omega)
      obtain ⟨a, q, cq, hck, hq, hbq⟩ := hc k hlt
      have hS := flat_step (ls := ls) (k := k) (by have := HL.out; omega)
      have hn1 : n1 = (ls.take k).flatten.length := by have := ho.1; rw [u8s_len] at this; omega
      have hq1 : n1 + q ≤ 1000000 := by
        have h1 := flat_le ls (k + 1)
        rw [hS, List.length_append, ← hn1, hbq.1] at h1
        have := HF.out
        omega
      have HS := Lib.hid hS
      have hz := hb.size
      clear hS hn1 hc hr1 hr
      rcases a with _ | ad
      · obtain ⟨rfl, hl0⟩ := hbq.none_len
        have HL0 := Lib.hid hl0
        clear hl0 hbq
        go_wp2_with (at_builtin; refine wpList_append_own_nil rfl _ _ 33 rfl w.heap.size 5 i0 1 Tryz.underlying33 HI.out _ n1 cq _ rfl ho rfl ?_)
        go_roundw
        case rel => exact ⟨k + 1, by omega, by go_num, _, _, _, rfl, by rw [HS.out, HL0.out, List.append_nil]; exact ho, hb⟩
        case measure => simp [intOf]; omega
      · have hcells := Lib.hid hbq.cells
        have hlen : (u8s (ls.getD k [])).length = q * 1 := by rw [u8s_len, hbq.1]; omega
        have HLEN := Lib.hid hlen
        clear hlen hbq
        go_wp2_with (at_builtin; refine wpList_append_own _ rfl _ _ 33 rfl w.heap.size 5 i0 (.int .u8 0) 1 1 Tryz.underlying33 HI.out HZ0.out HZ1.out HZ2.out rfl (by decide) _ n1 _ rfl ho ad q cq _ rfl HLEN.out hcells.out (u8s_one _) (by unfold maxLen; omega) (by omega) hz ?_; intro v' w1 hown hgrow _)
        rw [u8s_append, ← HS.out] at hown
        obtain ⟨A2, c2, rfl⟩ := own_slice hown
        have hb1 := grow_own hb ho (Nat.le_refl _) hgrow
        clear hgrow ho hb
        go_roundw
        case rel => exact ⟨k + 1, by omega, by go_num, _, _, _, rfl, hown, hb1⟩
        case measure => simp [intOf]; omega
    · have hall : ls.take k = ls := List.take_of_length_le (by have := HL.out; omega)
      rw [hall] at ho
      have hn1 : n1 = ls.flatten.length := by have := ho.1; rw [u8s_len] at this; omega
      subst hn1
      clear hr hr1 hall
      go_wp2_with fail
      go_ret
      exact ⟨_, _, rfl, ho, hb⟩
end Go.Proofs.YtognlgklepgemaaGreat
