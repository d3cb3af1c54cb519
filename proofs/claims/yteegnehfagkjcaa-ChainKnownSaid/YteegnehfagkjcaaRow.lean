/- Rows of the call's own that are laid over, of elements of any size. No function of the program is named here. -/
import Derived.Test.YteegnehfagkjcaaCells
import Derived.Laws.CopyOwn
import Derived.Lib.SliceRun
import Derived.Lib.AppendZerosOnto
import Derived.Lib.Overlaps
namespace Go.Proofs.Yteegnehfagkjcaa
open Go.ChangeShapes Go.WideShapes Go.ChangeAt Go.RowKit
variable {P : Program}

/-- copy into a row that is known whole, of elements of any size. -/
theorem run_copy_rowS (w : World) (dT sT ty elem : TypeId) (i : TypeInfo) (s g o dLen dCap : Nat) (a : Addr) (sLen sCap : Nat) (cur : Array Value) (t : TypeId) (cs : List Value)
    (hu : P.underlying dT = some (.slice elem)) (hi : P.info? elem = some i) (hs : i.size = s)
    (hg : w.heap[g]? = some (.cells cur t (0, 0))) (hn : cs.length = Nat.min sLen dLen * s)
    (hsrc : ∀ j v, cs[j]? = some v → w.cell? (a.add j) = some v) (hfit : o + cs.length ≤ cur.size) (h1 : ∀ v ∈ cs, v.oneCell' = true) :
    (Builtin.copy_ #[dT, sT] ty #[.slice (some ⟨g, o, none⟩) dLen dCap, .slice (some a) sLen sCap]).run P w =
      .ok (goInt (Nat.min sLen dLen)) (w.setRow g (cur.toList.take o ++ cs ++ cur.toList.drop (o + cs.length)).toArray) := by
  subst hs
  have hl := run_firstCells_some (P := P) w i.size (Nat.min sLen dLen) a sLen sCap cs hn hsrc
  have hst := run_storeCells_at P g o t cs 0 cur w hg (by simpa using hfit) h1
  have hl2 := hl
  simp only [Builtin.firstCells] at hl2
  simp [Builtin.copy_, run_underlying hu, Builtin.lenOf, sizeOf, typeInfo, hi, hst, Builtin.firstCells, hl2]
/-- clear on elements of any size. -/
theorem run_clear_rowS (w : World) (t e ty : TypeId) (z : Value) (s : Nat) (ht : P.underlying t = some (.slice e)) (hv : ∀ w, (zeroValue e).run P w = .ok z w) (hz : z.cells.size = s) (h1 : ∀ u ∈ z.cells, u.oneCell' = true) (g o n c : Nat) (hn : 0 < n) (cur : Array Value) (T : TypeId)
    (hg : w.heap[g]? = some (.cells cur T (0, 0))) (hfit : o + n * s ≤ cur.size) :
    (Builtin.clear_ #[t] ty #[.slice (some ⟨g, o, none⟩) n c]).run P w = .ok (.tuple #[]) (w.setRow g (cur.toList.take o ++ (Builtin.zeroCells z.cells n).toList ++ cur.toList.drop (o + n * s)).toArray) := by
  have hzs : (Builtin.zeroCells z.cells n).toList.length = n * s := by rw [Array.length_toList, size_zeroCells, hz]
  have hst := run_storeCells_at P g o T (Builtin.zeroCells z.cells n).toList 0 cur w hg (by rw [hzs]; simpa using hfit) (by
    intro v hv'
    rw [Array.mem_toList_iff] at hv'
    unfold Builtin.zeroCells at hv'
    rw [Array.mem_map] at hv'
    obtain ⟨k, hk, rfl⟩ := hv'
    rw [Array.mem_range] at hk
    apply h1
    rcases Nat.eq_zero_or_pos z.cells.size with h0 | h0
    · rw [h0] at hk
      omega
    · have hm := Nat.mod_lt k h0
      simp [hm])
  rw [hzs] at hst
  obtain ⟨m, rfl⟩ : ∃ m, n = m + 1 := ⟨n - 1, by omega⟩
  simp only [Nat.add_zero] at hst
  simp [Builtin.clear_, run_underlying ht, hv, hst]
/-- A slice whose row is its own, in a block of F. -/
structure OwA (w : World) (F : Nat → Prop) (E : TypeId) (s : Nat) (A : Option Addr) (n c : Nat) (xs : List Value) : Prop where
  own : w.ownsRow 0 E s (.slice A n c) n xs
  loc : ∀ b, (Value.slice A n c).ownBlock = some b → F b
section
variable {w w' : World} {F G : Nat → Prop} {E : TypeId} {s n c : Nat} {A : Option Addr} {xs : List Value}
theorem OwA.turn (h : OwA w F E s A n c xs) (ht : Turns G w w') (hd : ∀ b, F b → ¬ G b) : OwA w' F E s A n c xs := ⟨own_turn h.own ht fun b e => hd b (h.loc b e), h.loc⟩
theorem OwA.below (h : OwA w F E s A n c xs) (hb : Below w.heap.size w w') : OwA w' F E s A n c xs := h.turn (G := fun _ => False) (Turns.of_below hb) fun _ _ e => e
theorem OwA.mono (h : OwA w F E s A n c xs) (hF : ∀ b, b < w.heap.size → F b → G b) : OwA w G E s A n c xs := ⟨h.own, fun b e => hF b (h.own.lt b e).2 (h.loc b e)⟩
theorem OwA.nil (w : World) (F : Nat → Prop) (E : TypeId) (s : Nat) : OwA w F E s none 0 0 [] := ⟨own_nil _ _ _ _, fun b e => by simp [Value.ownBlock] at e⟩
theorem OwA.of {B : Nat} (h : w.ownsRow B E s (.slice A n c) n xs) : OwA w (fun b => B ≤ b) E s A n c xs := ⟨own_lower h (Nat.zero_le _), fun b e => (h.lt b e).1⟩
theorem OwA.cells (h : OwA w F E s A n c xs) : Cells w F A n s xs := by
  have h1 := Cells.of_own h.own
  refine ⟨h1.1, fun h0 => ?_⟩
  obtain ⟨b, off, e, -, hl, hc⟩ := h1.2 h0
  exact ⟨b, off, e, h.loc b (by rw [e]; rfl), hl, hc⟩
/-- Its block, or there is none. -/
theorem OwA.split (h : OwA w F E s A n c xs) : (A = none ∧ n = 0 ∧ c = 0 ∧ xs = []) ∨ ∃ g cur, A = some ⟨g, 0, none⟩ ∧ F g ∧ Blk w g E cur ∧ n ≤ c ∧ c ≤ maxLen ∧ cur.size = c * s ∧ cur.toList.take (n * s) = xs := by
  rcases h.own.2 with ⟨e, rfl⟩ | ⟨g, cap, cur, e, -, hh, h1, h2, h3, h4⟩
  · injection e with e1 e2 e3
    subst e1 e3
    exact .inl ⟨rfl, rfl, rfl, List.length_eq_zero_iff.1 (by rw [h.own.1]; simp)⟩
  · injection e with e1 e2 e3
    subst e1 e3
    exact .inr ⟨g, cur, rfl, h.loc g rfl, hh, h1, h2, h3, h4⟩
theorem OwA.len (h : OwA w F E s A n c xs) : xs.length = n * s := h.own.1
/-- A block of that kind, with a list at its head. -/
theorem OwA.mk_ {g : Nat} {cur : Array Value} (hh : Blk w g E cur) (hF : F g) (hn : n ≤ c) (hc : c ≤ maxLen) (hs : cur.size = c * s) (hx : cur.toList.take (n * s) = xs) : OwA w F E s (some ⟨g, 0, none⟩) n c xs := by
  refine ⟨⟨?_, .inr ⟨g, c, cur, rfl, Nat.zero_le _, hh, hn, hc, hs, hx⟩⟩, fun b e => ?_⟩
  · rw [← hx, List.length_take, Array.length_toList, hs]
    exact Nat.min_eq_left (Nat.mul_le_mul_right s hn)
  · have e2 : g = b := by simpa [Value.ownBlock] using e
    exact e2 ▸ hF
theorem blk_setRow {g : Nat} {cur : Array Value} (h : Blk w g E cur) (cs : Array Value) : Blk (w.setRow g cs) g E cs := setRow_heap w g cur cs E _ h
theorem turns_setRow (w : World) (g : Nat) (cs : Array Value) : Turns (fun b => b = g) w (w.setRow g cs) := ⟨rfl, rfl, rfl, by simp [World.setRow], fun k _ hk => setRow_other w g k cs hk⟩
end
end Go.Proofs.Yteegnehfagkjcaa
