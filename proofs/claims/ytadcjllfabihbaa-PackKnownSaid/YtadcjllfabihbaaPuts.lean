/- PackPuts, walked: numbers and texts are packed as the document says. -/
import Derived.Test.YtadcjllfabihbaaPackW
namespace Go.Proofs.Ytadcjllfabihbaa
open Go.ChangeShapes Go.WideShapes Go.ChangeAt Go.RowKit

/-- A text packed, or nothing; and the error. -/
def txt (s : ByteArray) : List Nat := if s.size ≤ 65535 then Pk.tx (nums s) else []
def errT (s : ByteArray) : Int := if s.size ≤ 65535 then 0 else 3
theorem txt_short {s : ByteArray} (h : s.size ≤ 65535) : txt s = Pk.tx (nums s) ∧ errT s = 0 ∧ (txt s).length = s.size + 2 := by
  have h1 : txt s = Pk.tx (nums s) := by unfold txt; rw [if_pos h]
  refine ⟨h1, by unfold errT; rw [if_pos h], ?_⟩
  rw [h1, Pk.tx, List.length_append, Pk.be_len, nums_len, Nat.add_comm]
theorem txt_long {s : ByteArray} (h : 65535 < s.size) : txt s = [] ∧ errT s = 3 := ⟨by unfold txt; rw [if_neg (by omega)], by unfold errT; rw [if_neg (by omega)]⟩
theorem txt_len (s : ByteArray) : (txt s).length ≤ 65537 := by
  by_cases h : s.size ≤ 65535
  · have := (txt_short h).2.2; omega
  · rw [(txt_long (by omega)).1]; simp
theorem txt_lt (s : ByteArray) : ∀ x ∈ txt s, x < 256 := by
  by_cases h : s.size ≤ 65535
  · rw [(txt_short h).1]; exact Pk.tx_lt _ (nums_lt s)
  · rw [(txt_long (by omega)).1]; simp
theorem own2_nil (w : World) : OwnPost2 w 0 [] 3 (.returned (.tuple #[.slice none 0 0, .int .i64 3])) w := ⟨none, 0, rfl, own_nil _ _ _ _, Below.refl _ _⟩
theorem putText_all (s : ByteArray) (w : World) : Calls Try.prog 16 #[.string s] w (OwnPost2 w (txt s).length (txt s) (errT s)) := by
  by_cases h : s.size ≤ 65535
  · rw [(txt_short h).2.2, (txt_short h).1, (txt_short h).2.1]
    exact putText_any s w h
  · rw [(txt_long (by omega)).1, (txt_long (by omega)).2]
    refine (putText_long s w (by omega)).mono ?_
    rintro e w' ⟨rfl, rfl⟩
    exact own2_nil w
theorem refText_all (s : ByteArray) (w : World) : Calls Try.prog 17 #[.string s] w (OwnPost2 w (txt s).length (txt s) (errT s)) := by
  by_cases h : s.size ≤ 65535
  · rw [(txt_short h).2.2, (txt_short h).1, (txt_short h).2.1]
    exact refText_any s w h
  · rw [(txt_long (by omega)).1, (txt_long (by omega)).2]
    refine (refText_long s w (by omega)).mono ?_
    rintro e w' ⟨rfl, rfl⟩
    exact own2_nil w

/-- The first k rows are small. -/
def Small (ls : List (List Nat)) (k : Nat) : Prop := ∀ i, i < k → (ls.getD i []).length ≤ 200
theorem small_flat (ls : List (List Nat)) (k : Nat) (h : Small ls k) (hk : k ≤ ls.length) : (ls.take k).flatten.length ≤ 200 * k := by
  induction k with
  | zero => simp
  | succ k ih =>
    rw [flat_step (by omega), List.length_append]
    have h1 := ih (fun i hi => h i (by omega)) (by omega)
    have h2 := h k (by omega)
    omega
/-- The sizes of the five kinds. -/
def sz (k : Nat) : Nat := [1, 2, 4, 8, 8].getD k 0
theorem sz_pos {k : Nat} (h : k < 5) : 0 < sz k ∧ Size (sz k) := by
  match k, h with
  | 0, _ => exact ⟨by decide, by unfold Size; decide⟩
  | 1, _ => exact ⟨by decide, by unfold Size; decide⟩
  | 2, _ => exact ⟨by decide, by unfold Size; decide⟩
  | 3, _ => exact ⟨by decide, by unfold Size; decide⟩
  | 4, _ => exact ⟨by decide, by unfold Size; decide⟩
theorem sz_cell (w : World) (t : TypeId) {k : Nat} (h : k < 5) : (w.alloc (.cells #[.int .i64 1, .int .i64 2, .int .i64 4, .int .i64 8, .int .i64 8] t)).cell? ⟨w.heap.size, k, none⟩ = some (.int .i64 (sz k : Nat)) := by
  rw [(Blk.new w t _).cell]
  match k, h with
  | 0, _ => rfl
  | 1, _ => rfl
  | 2, _ => rfl
  | 3, _ => rfl
  | 4, _ => rfl
/-- Five rows, each at a block of its own, the k-th and later ones as they were packed. -/
def Five (wr : World) (R n k : Nat) (g c : Nat → Nat) : Prop :=
  Blk wr R 25 #[.slice (some ⟨g 0, 0, none⟩) 1 (c 0), .slice (some ⟨g 1, 0, none⟩) 2 (c 1), .slice (some ⟨g 2, 0, none⟩) 4 (c 2), .slice (some ⟨g 3, 0, none⟩) 8 (c 3), .slice (some ⟨g 4, 0, none⟩) 8 (c 4)] ∧
  ∀ j, k ≤ j → j < 5 → wr.ownsRow 0 5 1 (.slice (some ⟨g j, 0, none⟩) (sz j) (c j)) (sz j) (u8s (Pk.be (sz j) n))
def Apart (R B : Nat) (g : Nat → Nat) : Prop := (∀ i j, i < j → j < 5 → g i < g j) ∧ (∀ i, i < 5 → g i < R ∧ B ≤ g i)
theorem Five.cell {wr : World} {R n k : Nat} {g c : Nat → Nat} (h : Five wr R n k g c) {j : Nat} (hj : j < 5) : wr.cell? ⟨R, j, none⟩ = some (.slice (some ⟨g j, 0, none⟩) (sz j) (c j)) := by
  rw [h.1.cell]
  match j, hj with
  | 0, _ => rfl
  | 1, _ => rfl
  | 2, _ => rfl
  | 3, _ => rfl
  | 4, _ => rfl
theorem Five.below {wr w' : World} {R n k B : Nat} {g c : Nat → Nat} (h : Five wr R n k g c) (hb : Below B wr w') (hB : B = wr.heap.size) : Five w' R n k g c := by
  subst hB
  exact ⟨h.1.below hb h.1.lt, fun j h1 h2 => own_below (h.2 j h1 h2) hb⟩
theorem Five.drewN {wr : World} {R n k : Nat} {g c : Nat → Nat} (h : Five wr R n k g c) (m : Nat) : Five (wr.drewN m) R n k g c := h
theorem Five.next {wr w' : World} {R n k B : Nat} {g c : Nat → Nat} (h : Five wr R n k g c) (hg : wr.grownBy w' (some (g k))) (ha : Apart R B g) (hk : k < 5) : Five w' R n (k + 1) g c := by
  refine ⟨(hg.block R h.1.lt (fun e => by injection e with e; have := (ha.2 k hk).1; omega)).trans h.1, fun j h1 h2 => (h.2 j (by omega) h2).kept hg (.inr ?_)⟩
  intro e
  have : g j = g k := by simpa [Value.ownBlock] using e
  have := ha.1 k j (by omega) h2
  omega
def pickN (a b c d e : Nat) (k : Nat) : Nat := [a, b, c, d, e].getD k 0
theorem own_some {w : World} {base n c : Nat} {e : TypeId} {A : Option Addr} {xs : List Value} (h : w.ownsRow base e 1 (.slice A n c) n xs) (h0 : 0 < n) : ∃ g, A = some ⟨g, 0, none⟩ ∧ base ≤ g ∧ g < w.heap.size := by
  obtain ⟨g, cs, hA, hb, _, hg⟩ := own_cells h h0
  exact ⟨g, hA, hg, hb.lt⟩
theorem apart_of {R B a b c d e : Nat} (h0 : B ≤ a) (h1 : a < b) (h2 : b < c) (h3 : c < d) (h4 : d < e) (h5 : e < R) : Apart R B (pickN a b c d e) := by
  refine ⟨fun i j hij hj => ?_, fun i hi => ?_⟩
  · match j, hj, i, hij with
    | 1, _, 0, _ => exact h1
    | 2, _, 0, _ => exact Nat.lt_trans h1 h2
    | 2, _, 1, _ => exact h2
    | 3, _, 0, _ => show a < d; omega
    | 3, _, 1, _ => show b < d; omega
    | 3, _, 2, _ => exact h3
    | 4, _, 0, _ => show a < e; omega
    | 4, _, 1, _ => show b < e; omega
    | 4, _, 2, _ => show c < e; omega
    | 4, _, 3, _ => exact h4
  · match i, hi with
    | 0, _ => exact ⟨show a < R by omega, show B ≤ a by omega⟩
    | 1, _ => exact ⟨show b < R by omega, show B ≤ b by omega⟩
    | 2, _ => exact ⟨show c < R by omega, show B ≤ c by omega⟩
    | 3, _ => exact ⟨show d < R by omega, show B ≤ d by omega⟩
    | 4, _ => exact ⟨show e < R by omega, show B ≤ e by omega⟩
theorem spoilt_below {w w1 w2 : World} {v : Value} (h : Below w.heap.size w w1) (hg : w1.grownBy w2 v.ownBlock) (hv : ∀ g, v.ownBlock = some g → w.heap.size ≤ g) : Below w.heap.size w w2 :=
  h.grown hg h.size (fun k e => hv k e)
/-- Rows whose blocks lie in parts of memory that were made one behind the other are apart. -/
theorem own_apart {w : World} {b1 B n1 n2 c1 c2 : Nat} {A1 A2 : Option Addr} {e1 : TypeId} {x1 : List Value} (h1 : w.ownsRow b1 e1 1 (.slice A1 n1 c1) n1 x1) (hB : B ≤ b1) (hlt : ∀ g, (Value.slice A2 n2 c2).ownBlock = some g → g < B) : (Value.slice A1 n1 c1).ownBlock = none ∨ (Value.slice A1 n1 c1).ownBlock ≠ (Value.slice A2 n2 c2).ownBlock := by
  cases hv : (Value.slice A1 n1 c1).ownBlock with
  | none => exact .inl rfl
  | some g =>
    refine .inr (fun e => ?_)
    have k1 := (h1.lt g hv).1
    have k2 := hlt g e.symm
    omega
end Go.Proofs.Ytadcjllfabihbaa
