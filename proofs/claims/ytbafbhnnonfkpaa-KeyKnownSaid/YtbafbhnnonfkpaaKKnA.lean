/- KeyKnown: what it lays. -/
import Derived.Test.YtbafbhnnonfkpaaKOrder
import Derived.Test.YtbafbhnnonfkpaaPanes
namespace Go.Proofs.Ytbafbhnnonfkpaa
open Go.ChangeShapes Go.WideShapes Go.ChangeAt Go.RowKit

def NL : List Int := [0, 1, -1, 255, 256, -256, 9223372036854775807, -9223372036854775808, 1099511627776, -1099511627776]
def TL : List ByteArray := [⟨#[]⟩, ⟨#[97]⟩, ⟨#[0]⟩, ⟨#[0, 0]⟩, ⟨#[97, 0]⟩, ⟨#[97, 0, 98]⟩, ⟨#[255]⟩, ⟨#[255, 255]⟩, ⟨#[97, 255]⟩, ⟨#[0, 255]⟩, ⟨#[98]⟩]
theorem NL_big (q : Nat) : big (NL.getD q 0) := by
  rw [List.getD_eq_getElem?_getD]
  rcases hx : NL[q]? with _ | x
  · show big 0
    unfold big; omega
  · have hm := List.mem_of_getElem? hx
    simp [NL] at hm
    show big x
    unfold big
    omega
theorem TL_small (q : Nat) : (TL.getD q ByteArray.empty).size ≤ 3 := by
  rw [List.getD_eq_getElem?_getD]
  rcases hx : TL[q]? with _ | x
  · show (0 : Nat) ≤ 3
    omega
  · have hm := List.mem_of_getElem? hx
    have key : ∀ y ∈ TL, y.size ≤ 3 := by decide
    exact key x hm
/-- The numbers and the texts stand where the call laid them. -/
def Laid (w W : World) : Prop := (∀ q, q < 10 → W.cell? ⟨w.heap.size, q, none⟩ = some (.int .i64 (NL.getD q 0))) ∧ ∀ q, q < 11 → W.cell? ⟨w.heap.size + 1, q, none⟩ = some (.string (TL.getD q ByteArray.empty))
theorem laid_new (w : World) (t u : TypeId) : Laid w ((w.alloc (.cells #[.int .i64 0, .int .i64 1, .int .i64 (-1), .int .i64 255, .int .i64 256, .int .i64 (-256), .int .i64 9223372036854775807, .int .i64 (-9223372036854775808), .int .i64 1099511627776, .int .i64 (-1099511627776)] t)).alloc (.cells #[.string ⟨#[]⟩, .string ⟨#[97]⟩, .string ⟨#[0]⟩, .string ⟨#[0, 0]⟩, .string ⟨#[97, 0]⟩, .string ⟨#[97, 0, 98]⟩, .string ⟨#[255]⟩, .string ⟨#[255, 255]⟩, .string ⟨#[97, 255]⟩, .string ⟨#[0, 255]⟩, .string ⟨#[98]⟩] u)) := by
  constructor
  · intro q hq
    rw [World.cell?_alloc_lt _ _ _ (by show w.heap.size < (w.alloc _).heap.size; simp), (Blk.new w t _).cell]
    match q, hq with
    | 0, _ => rfl
    | 1, _ => rfl
    | 2, _ => rfl
    | 3, _ => rfl
    | 4, _ => rfl
    | 5, _ => rfl
    | 6, _ => rfl
    | 7, _ => rfl
    | 8, _ => rfl
    | 9, _ => rfl
  · intro q hq
    have hb := (Blk.new (w.alloc (.cells #[.int .i64 0, .int .i64 1, .int .i64 (-1), .int .i64 255, .int .i64 256, .int .i64 (-256), .int .i64 9223372036854775807, .int .i64 (-9223372036854775808), .int .i64 1099511627776, .int .i64 (-1099511627776)] t)) u #[.string ⟨#[]⟩, .string ⟨#[97]⟩, .string ⟨#[0]⟩, .string ⟨#[0, 0]⟩, .string ⟨#[97, 0]⟩, .string ⟨#[97, 0, 98]⟩, .string ⟨#[255]⟩, .string ⟨#[255, 255]⟩, .string ⟨#[97, 255]⟩, .string ⟨#[0, 255]⟩, .string ⟨#[98]⟩]).cell q
    rw [World.size_alloc] at hb
    rw [hb]
    match q, hq with
    | 0, _ => rfl
    | 1, _ => rfl
    | 2, _ => rfl
    | 3, _ => rfl
    | 4, _ => rfl
    | 5, _ => rfl
    | 6, _ => rfl
    | 7, _ => rfl
    | 8, _ => rfl
    | 9, _ => rfl
    | 10, _ => rfl
theorem Laid.below {w W W' : World} {B : Nat} (h : Laid w W) (b : Below B W W') (hB : w.heap.size + 2 ≤ B) : Laid w W' :=
  ⟨fun q hq => (b.cell (p := ⟨w.heap.size, q, none⟩) (by show w.heap.size < B; omega)).trans (h.1 q hq), fun q hq => (b.cell (p := ⟨w.heap.size + 1, q, none⟩) (by show w.heap.size + 1 < B; omega)).trans (h.2 q hq)⟩
theorem bytes_lit2 (w : World) (t : TypeId) (a b : Nat) (ha : a < 256) (hb : b < 256) : Bytes (w.alloc (.cells #[.int .u8 (a : Int), .int .u8 (b : Int)] t)) (w.heap.size + 1) (some ⟨w.heap.size, 0, none⟩) 2 [a, b] :=
  ⟨rfl, by intro x hx; simp at hx; omega, fun _ => ⟨w.heap.size, 0, rfl, by omega, fun i hi => by
    rw [(Blk.new w t _).cell]
    match i, hi with
    | 0, _ => rfl
    | 1, _ => rfl⟩⟩
theorem bytes_lit1 (w : World) (t : TypeId) (a : Nat) (ha : a < 256) : Bytes (w.alloc (.cells #[.int .u8 (a : Int)] t)) (w.heap.size + 1) (some ⟨w.heap.size, 0, none⟩) 1 [a] :=
  ⟨rfl, by intro x hx; simp at hx; omega, fun _ => ⟨w.heap.size, 0, rfl, by omega, fun i hi => by
    rw [(Blk.new w t _).cell]
    match i, hi with
    | 0, _ => rfl⟩⟩
theorem mod_ex (k d : Nat) (hd : 0 < d) : ∃ q : Nat, (k : Int).tmod (d : Int) = (q : Int) ∧ q < d := tmod_ex k d hd
theorem PartsR.head {w : World} {B n : Nat} {A : Option Addr} {l : List PT} (h : PartsR w B A n l) {j : Nat} (hj : j ≤ n) : PartsR w B A j (l.take j) := by
  refine ⟨by rw [List.length_take, h.1]; omega, fun p hp => h.2.1 p (List.mem_of_mem_take hp), fun h0 => ?_⟩
  obtain ⟨b, off, e, hb, hc⟩ := h.2.2 (by omega)
  refine ⟨b, off, e, hb, fun i hi => ?_⟩
  have := hc i (by omega)
  rwa [show (l.take j).getD i default = l.getD i default by rw [List.getD_eq_getElem?_getD, List.getD_eq_getElem?_getD, List.getElem?_take_of_lt hi]]
theorem ints_lit3 (w : World) (t : TypeId) (a b c : Int) (h : big a ∧ big b ∧ big c) : Ints (w.alloc (.cells #[.int .i64 a, .int .i64 b, .int .i64 c] t)) (w.heap.size + 1) (some ⟨w.heap.size, 0, none⟩) 3 [a, b, c] := by
  refine ⟨rfl, fun x hx => ?_, fun _ => ⟨w.heap.size, 0, rfl, by omega, fun i hi => ?_⟩⟩
  · simp at hx
    rcases hx with rfl | rfl | rfl
    · exact h.1
    · exact h.2.1
    · exact h.2.2
  · rw [(Blk.new w t _).cell]
    match i, hi with
    | 0, _ => rfl
    | 1, _ => rfl
    | 2, _ => rfl
theorem strs_lit2 (w : World) (t : TypeId) (a b : ByteArray) (h : a.size ≤ 3 ∧ b.size ≤ 3) : Strs (w.alloc (.cells #[.string a, .string b] t)) (w.heap.size + 1) (some ⟨w.heap.size, 0, none⟩) 2 [a, b] := by
  refine ⟨rfl, fun x hx => ?_, fun _ => ⟨w.heap.size, 0, rfl, by omega, fun i hi => ?_⟩⟩
  · simp at hx
    rcases hx with rfl | rfl
    · have := h.1; omega
    · have := h.2; omega
  · rw [(Blk.new w t _).cell]
    match i, hi with
    | 0, _ => rfl
    | 1, _ => rfl
theorem Strs.alloc {w : World} {B n : Nat} {A : Option Addr} {l : List ByteArray} (h : Strs w B A n l) (hB : B ≤ w.heap.size) (o : Obj) : Strs (w.alloc o) B A n l := h.below ((Below.refl w.heap.size w).alloc (Nat.le_refl _) o) hB
/-- Two rows, laid in either order. -/
theorem laid_numbers_texts (w : World) (t u : TypeId) (a b c : Int) (x y : ByteArray) (h : big a ∧ big b ∧ big c) (hx : x.size ≤ 3 ∧ y.size ≤ 3) :
    Below w.heap.size w ((w.alloc (.cells #[.int .i64 a, .int .i64 b, .int .i64 c] t)).alloc (.cells #[.string x, .string y] u)).drew ∧
    Ints ((w.alloc (.cells #[.int .i64 a, .int .i64 b, .int .i64 c] t)).alloc (.cells #[.string x, .string y] u)).drew (w.heap.size + 2) (some ⟨w.heap.size, 0, none⟩) 3 [a, b, c] ∧
    Strs ((w.alloc (.cells #[.int .i64 a, .int .i64 b, .int .i64 c] t)).alloc (.cells #[.string x, .string y] u)).drew (w.heap.size + 2) (some ⟨w.heap.size + 1, 0, none⟩) 2 [x, y] := by
  refine ⟨(((Below.refl _ _).alloc (Nat.le_refl _) _).alloc (by simp) _).drew, ?_, ?_⟩
  · exact ((ints_lit3 w t a b c h).alloc (by simp) _).more (by omega)
  · have := strs_lit2 (w.alloc (.cells #[.int .i64 a, .int .i64 b, .int .i64 c] t)) u x y hx
    rw [World.size_alloc] at this
    exact this
theorem laid_texts_numbers (w : World) (t u : TypeId) (a b c : Int) (x y : ByteArray) (h : big a ∧ big b ∧ big c) (hx : x.size ≤ 3 ∧ y.size ≤ 3) :
    Below w.heap.size w ((w.alloc (.cells #[.string x, .string y] u)).alloc (.cells #[.int .i64 a, .int .i64 b, .int .i64 c] t)).drew ∧
    Ints ((w.alloc (.cells #[.string x, .string y] u)).alloc (.cells #[.int .i64 a, .int .i64 b, .int .i64 c] t)).drew (w.heap.size + 2) (some ⟨w.heap.size + 1, 0, none⟩) 3 [a, b, c] ∧
    Strs ((w.alloc (.cells #[.string x, .string y] u)).alloc (.cells #[.int .i64 a, .int .i64 b, .int .i64 c] t)).drew (w.heap.size + 2) (some ⟨w.heap.size, 0, none⟩) 2 [x, y] := by
  refine ⟨(((Below.refl _ _).alloc (Nat.le_refl _) _).alloc (by simp) _).drew, ?_, ?_⟩
  · have := ints_lit3 (w.alloc (.cells #[.string x, .string y] u)) t a b c h
    rw [World.size_alloc] at this
    exact this
  · exact ((strs_lit2 w u x y hx).alloc (by simp) _).more (by omega)
end Go.Proofs.Ytbafbhnnonfkpaa
