/- The check of a text; the chapter's examples. -/
import Derived.Test.YtflfmcicidgkmaaWalkH
import Derived.Lib.ConvBytes
import Derived.Laws.BytesArg
namespace Go.Proofs.Ytflfmcicidgkmaa
open Go.ChangeShapes Go.WideShapes Go.ChangeAt Go.RowKit

def nums (s : ByteArray) : List Nat := s.data.toList.map UInt8.toNat
theorem nums_len (s : ByteArray) : (nums s).length = s.size := by simp [nums]
theorem below_bytes (w : World) (e : TypeId) (s : ByteArray) : Below w.heap.size w (Lib.bytesWorld w e s) :=
  ⟨rfl, rfl, rfl, by rw [Lib.bytesWorld_size]; omega, fun k hk => Lib.bytesWorld_at_old w e s k hk⟩
theorem bytes_text (w : World) (e : TypeId) (s : ByteArray) : Bytes (Lib.bytesWorld w e s) (w.heap.size + 1) (some ⟨w.heap.size, 0, none⟩) s.size (nums s) := by
  refine ⟨nums_len s, fun x hx => ?_, fun _ => ⟨w.heap.size, 0, rfl, by omega, fun i hi => ?_⟩⟩
  · simp [nums] at hx
    obtain ⟨b, _, rfl⟩ := hx
    exact b.toNat_lt
  · rw [Nat.zero_add, Lib.bytesWorld_cell w e s i hi]
    have hl : i < s.data.toList.length := by simpa using hi
    simp only [nums, List.getD_eq_getElem?_getD, List.getElem?_map, List.getElem?_eq_getElem hl]
    rfl

set_option maxRecDepth 100000 in
theorem text_any (s : ByteArray) (w : World) (hn : s.size ≤ 1000000) :
    Calls Try.prog 22 #[.string s] w fun e w' => e = .returned (.int .u32 ((Crc.upd 0 (nums s) : Nat) : Int)) ∧ Below w.heap.size w w' := by
  have hcv := fun W : World => Lib.run_convert_string_bytes (P := Try.prog) W 9 24 5 s Try.underlying9 Try.underlying24 Try.underlying5
  go_enter Try.func22, Try.ntmps22
  go_wp2_with fail
  refine (update_any 0 s.size _ (w.heap.size + 1) _ (nums s) _ (by omega) (bytes_text w 5 s) (by rw [Lib.bytesWorld_size]; omega) (by omega)).mono ?_
  rintro e w1 ⟨rfl, hbl⟩
  have hb1 : Below w.heap.size w w1 := (below_bytes w 5 s).trans (hbl.mono (by rw [Lib.bytesWorld_size]; omega))
  clear hbl hcv
  go_wp2_with fail
  go_ret
  exact ⟨rfl, hb1⟩

theorem k0 : Crc.sum [] = 0 := by decide +kernel
theorem k1 : Crc.sum [[0]] = 3523407757 := by decide +kernel
theorem k2 : Crc.sum [[255]] = 4278190080 := by decide +kernel
theorem k3 : Crc.upd 0 (nums ⟨#[49, 50, 51, 52, 53, 54, 55, 56, 57]⟩) = 3421780262 := by decide +kernel
theorem k4 : Crc.upd 0 (nums ⟨#[97]⟩) = 3904355907 := by decide +kernel
theorem k5 : Crc.take 0 1 = 1996959894 := by decide +kernel

theorem bytes_one (w : World) (t : TypeId) (x : Nat) (hx : x < 256) : Bytes (w.alloc (.cells #[.int .u8 (x : Int)] t)) (w.heap.size + 1) (some ⟨w.heap.size, 0, none⟩) 1 [x] := by
  refine ⟨rfl, by simpa using hx, fun _ => ⟨w.heap.size, 0, rfl, by omega, fun i hi => ?_⟩⟩
  obtain rfl : i = 0 := by omega
  exact (Blk.new w t _).cell 0

theorem rows_const (w : World) (t t' : TypeId) (x : Nat) (v : Int) (hv : v = x) (hx : x < 256) : RowsOf ((w.alloc (.cells #[.int .u8 v] t)).alloc (.cells #[.slice (some ⟨w.heap.size, 0, none⟩) 1 1] t')) (w.heap.size + 2) (some ⟨w.heap.size + 1, 0, none⟩) 1 [[x]] := by
  subst hv
  have hs : (w.alloc (.cells #[.int .u8 (x : Int)] t)).heap.size = w.heap.size + 1 := by simp
  have h := RowsOf.made (t := t') (c := 1) (bytes_one w t x hx) (by omega) (by omega)
  rw [hs] at h
  exact h

theorem below_two (w : World) (o o' : Obj) {w1 w2 : World} (h : Below w.heap.size w w1) (h2 : Below (w1.heap.size + 2) ((w1.alloc o).alloc o') w2) : Below w.heap.size w w2 :=
  ((h.alloc h.size o).alloc (by have := h.size; simp; omega) o').trans (h2.mono (by have := h.size; omega))

set_option maxRecDepth 100000 in
theorem works_any (w : World) : Calls Try.prog 8 #[] w fun e w' => e = .returned (.bool true) ∧ Below w.heap.size w w' := by
  go_enter Try.func8, Try.ntmps8
  go_wp2_with fail
  refine (sum_any 0 0 0 none [] _ ⟨rfl, fun h => absurd h (by omega)⟩ (by omega) (by omega)).mono ?_
  rintro e w1 ⟨rfl, b1⟩
  rw [k0]
  go_wp2_with fail
  refine (sum_any 1 1 (w1.heap.size + 2) _ [[0]] _ (rows_const w1 _ _ 0 0 rfl (by omega)) (by simp) (by omega)).mono ?_
  rintro e w2 ⟨rfl, b2⟩
  rw [k1]
  have c2 : Below w.heap.size w w2 := below_two w _ _ b1 (b2.mono (by simp))
  clear b1 b2
  go_wp2_with fail
  refine (sum_any 1 1 (w2.heap.size + 2) _ [[255]] _ (rows_const w2 _ _ 255 255 rfl (by omega)) (by simp) (by omega)).mono ?_
  rintro e w3 ⟨rfl, b3⟩
  rw [k2]
  have c3 : Below w.heap.size w w3 := below_two w _ _ c2 (b3.mono (by simp))
  clear c2 b3
  go_wp2_with fail
  refine (text_any _ _ (by decide)).mono ?_
  rintro e w4 ⟨rfl, b4⟩
  rw [k3]
  have c4 : Below w.heap.size w w4 := c3.trans (b4.mono c3.size)
  clear c3 b4
  go_wp2_with fail
  refine (text_any _ _ (by decide)).mono ?_
  rintro e w5 ⟨rfl, b5⟩
  rw [k4]
  have c5 : Below w.heap.size w w5 := c4.trans (b5.mono c4.size)
  clear c4 b5
  go_wp2_with fail
  refine (take_any 0 1 _ (by omega) (by omega) (by omega) (by omega)).mono ?_
  rintro e w6 ⟨rfl, rfl⟩
  rw [show Crc.take (0 : Int).toNat (1 : Int).toNat = 1996959894 from k5]
  go_wp2_with fail
  go_ret
  exact ⟨rfl, c5⟩
end Go.Proofs.Ytflfmcicidgkmaa
