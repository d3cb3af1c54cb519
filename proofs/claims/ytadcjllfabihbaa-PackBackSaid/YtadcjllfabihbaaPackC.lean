/- Texts, packed; a reader in memory, and what it takes. -/
import Derived.Test.YtadcjllfabihbaaPackB
namespace Go.Proofs.Ytadcjllfabihbaa
open Go.ChangeShapes Go.WideShapes Go.ChangeAt Go.RowKit

def OwnPost2 (w : World) (n : Nat) (l : List Nat) (err : Int) (e : Ending) (w' : World) : Prop :=
  ∃ A' c', e = .returned (.tuple #[.slice A' n c', .int .i64 err]) ∧ w'.ownsRow w.heap.size 5 1 (.slice A' n c') n (u8s l) ∧ Below w.heap.size w w'

/-- A row of two slices, just made. -/
theorem rows_two {w : World} {B n1 n2 c1 c2 : Nat} {a1 a2 : Option Addr} {l1 l2 : List Nat} {t : TypeId} (h1 : Bytes w B a1 n1 l1) (h2 : Bytes w B a2 n2 l2) (hB : B ≤ w.heap.size) (m1 : n1 ≤ 9223372036854775807) (m2 : n2 ≤ 9223372036854775807) :
    RowsOf (w.alloc (.cells #[.slice a1 n1 c1, .slice a2 n2 c2] t)) (w.heap.size + 1) (some ⟨w.heap.size, 0, none⟩) 2 [l1, l2] := by
  have hk := Blk.new w t #[.slice a1 n1 c1, .slice a2 n2 c2]
  refine ⟨rfl, fun _ => ⟨w.heap.size, 0, rfl, by omega, fun i hi => ?_⟩⟩
  match i, hi with
  | 0, _ => exact ⟨a1, n1, c1, hk.cell 0, m1, (h1.alloc hB _).more (by omega)⟩
  | 1, _ => exact ⟨a2, n2, c2, hk.cell 1, m2, (h2.alloc hB _).more (by omega)⟩

set_option maxRecDepth 100000 in
theorem putText_any (s : ByteArray) (w : World) (hs : s.size ≤ 65535) :
    Calls Try.prog 16 #[.string s] w (OwnPost2 w (s.size + 2) (Pk.tx (nums s)) 0) := by
  have hcv := fun W : World => Lib.run_convert_string_bytes (P := Try.prog) W 9 25 5 s Try.underlying9 Try.underlying25 Try.underlying5
  go_enter Try.func16, Try.ntmps16
  go_wp2_with fail
  refine (put16_any _ s.size _ rfl (by omega)).mono ?_
  rintro e w1 ⟨A1, c1, rfl, ho1, b1⟩
  have f1 := Bytes.of_own ho1 (Pk.be_lt 2 s.size)
  have f2 := (f1.below (below_bytes w1 5 s) (Nat.le_refl _)).more (B' := w1.heap.size + 1) (by omega)
  have f3 := bytes_text w1 5 s
  have z3 := Lib.bytesWorld_size w1 5 s
  have b3 : Below w.heap.size w (Lib.bytesWorld w1 5 s) := b1.trans ((below_bytes w1 5 s).mono b1.size)
  have Z3 := Lib.hid z3
  clear ho1 f1 z3
  go_wp2_with fail
  clear hcv
  generalize Lib.bytesWorld w1 5 s = w3 at *
  have hfl : ([Pk.be 2 s.size, nums s] : List (List Nat)).flatten = Pk.tx (nums s) := by simp [Pk.tx, nums_len]
  have hfn : (Pk.tx (nums s)).length = s.size + 2 := by simp [Pk.tx, nums_len, Pk.be_len]; omega
  have HFL := Lib.hid hfl
  have HFN := Lib.hid hfn
  clear hfl hfn
  refine (join_any 2 2 (w3.heap.size + 1) _ [Pk.be 2 s.size, nums s] _ (by rw [← Z3.out] at f2 f3; exact rows_two f2 f3 (Nat.le_refl _) (by omega) (by omega)) (by simp) (by omega) (by rw [HFL.out, HFN.out]; omega)).mono ?_
  rintro e w4 ⟨A4, c4, rfl, ho4, b4⟩
  rw [HFL.out, HFN.out] at ho4 ⊢
  have hb : Below w.heap.size w w4 := (b3.alloc b3.size _).trans (b4.mono (by have := b3.size; simp; omega))
  have ho := own_lower ho4 (b' := w.heap.size) (by have := b3.size; simp; omega)
  clear ho4 b4 f2 f3 b3 b1
  go_wp2_with fail
  go_ret2
  exact ⟨A4, c4, rfl, ho, hb⟩
theorem putText_long (s : ByteArray) (w : World) (hs : 65535 < s.size) :
    Calls Try.prog 16 #[.string s] w fun e w' => e = .returned (.tuple #[.slice none 0 0, .int .i64 3]) ∧ w = w' := by
  go_enter Try.func16, Try.ntmps16
  go_wp2_with fail
  go_ret2
  exact ⟨rfl, rfl⟩
set_option maxRecDepth 100000 in
theorem refText_any (s : ByteArray) (w : World) (hs : s.size ≤ 65535) :
    Calls Try.prog 17 #[.string s] w (OwnPost2 w (s.size + 2) (Pk.tx (nums s)) 0) := by
  obtain ⟨i0, hi, hz0, hz1, hz2⟩ := info_parts Try.info5
  have HI := Lib.hid hi
  have HZ0 := Lib.hid hz0
  have HZ1 := Lib.hid hz1
  have HZ2 := Lib.hid hz2
  clear hi hz0 hz1 hz2
  go_enter Try.func17, Try.ntmps17
  go_wp2_with fail
  refine (refNumber_any _ s.size 2 _ rfl (by omega) (by unfold Size; omega)).mono ?_
  rintro e w1 ⟨A1, c1, rfl, ho1, b1⟩
  have z1 := b1.size
  go_wp2_with (at_builtin; refine Lib.wpList_append_own_string _ rfl _ _ 25 9 rfl w.heap.size 5 i0 Try.underlying25 Try.underlying9 HI.out HZ0.out HZ1.out HZ2.out _ 2 _ rfl ho1 s rfl (by unfold maxLen; omega) (by omega) z1 ?_; intro v' w2 hown hgrow _)
  rw [strCells_nums, u8s_append, Nat.add_comm 2] at hown
  obtain ⟨A2, c2, rfl⟩ := own_slice hown
  have hb1 := grow_own b1 ho1 (Nat.le_refl _) hgrow
  have ho2 : w2.ownsRow w.heap.size 5 1 (.slice A2 (s.size + 2) c2) (s.size + 2) (u8s (Pk.tx (nums s))) := by
    unfold Pk.tx
    rw [nums_len]
    exact hown
  clear hgrow ho1 b1 hown
  go_ret2
  exact ⟨A2, c2, rfl, ho2, hb1⟩
theorem refText_long (s : ByteArray) (w : World) (hs : 65535 < s.size) :
    Calls Try.prog 17 #[.string s] w fun e w' => e = .returned (.tuple #[.slice none 0 0, .int .i64 3]) ∧ w = w' := by
  go_enter Try.func17, Try.ntmps17
  go_wp2_with fail
  go_ret2
  exact ⟨rfl, rfl⟩
end Go.Proofs.Ytadcjllfabihbaa
