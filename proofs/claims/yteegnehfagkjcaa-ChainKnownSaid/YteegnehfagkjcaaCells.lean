/- Slices of cells of any kind, in blocks of a set F. No function of the program is named here. -/
import Derived.Test.YteegnehfagkjcaaTurns
namespace Go.Proofs.Yteegnehfagkjcaa
open Go.ChangeShapes Go.WideShapes Go.ChangeAt Go.RowKit

/-- A slice at A of n elements of s cells each reads as the cells xs; its block, if it has elements, is one of F. -/
def Cells (w : World) (F : Nat → Prop) (A : Option Addr) (n s : Nat) (xs : List Value) : Prop :=
  xs.length = n * s ∧ (0 < n → ∃ b off, A = some ⟨b, off, none⟩ ∧ F b ∧ b < w.heap.size ∧ ∀ j u, xs[j]? = some u → w.cell? ⟨b, off + j, none⟩ = some u)
section
variable {F G : Nat → Prop} {w w' : World} {A : Option Addr} {n s : Nat} {xs : List Value}
theorem Cells.nil (w : World) (F : Nat → Prop) (A : Option Addr) (s : Nat) : Cells w F A 0 s [] := ⟨by simp, fun h => absurd h (by omega)⟩
theorem Cells.mono (h : Cells w F A n s xs) (hF : ∀ b, b < w.heap.size → F b → G b) : Cells w G A n s xs :=
  ⟨h.1, fun h0 => by
    obtain ⟨b, off, e, hb, hl, hc⟩ := h.2 h0
    exact ⟨b, off, e, hF b hl hb, hl, hc⟩⟩
theorem Cells.turn (h : Cells w F A n s xs) (ht : Turns G w w') (hd : ∀ b, F b → ¬ G b) : Cells w' F A n s xs :=
  ⟨h.1, fun h0 => by
    obtain ⟨b, off, e, hb, hl, hc⟩ := h.2 h0
    exact ⟨b, off, e, hb, Nat.lt_of_lt_of_le hl ht.size, fun j u hu => (ht.cell hl (hd b hb)).trans (hc j u hu)⟩⟩
theorem Cells.below (h : Cells w F A n s xs) (hb : Below w.heap.size w w') : Cells w' F A n s xs := h.turn (G := fun _ => False) (Turns.of_below hb) fun _ _ e => e
theorem Cells.of_own {base c : Nat} {e : TypeId} (h : w.ownsRow base e s (.slice A n c) n xs) : Cells w (fun b => base ≤ b) A n s xs := by
  refine ⟨h.1, fun h0 => ?_⟩
  rcases h.2 with ⟨hv, hx⟩ | ⟨g, cap, cur, hv, hb, hh, hcs⟩
  · have := h.1
    injection hv with h1 h2 h3
    omega
  · injection hv with h1 h2 h3
    subst h1
    have hl : g < w.heap.size := by
      rcases Nat.lt_or_ge g w.heap.size with hlt | hge
      · exact hlt
      · rw [Array.getElem?_eq_none hge] at hh; cases hh
    refine ⟨g, 0, rfl, hb, hl, fun j u hu => ?_⟩
    rw [Nat.zero_add, cell_of_row w g j cur e (0, 0) hh]
    rw [← hcs.2.2.2, List.getElem?_take] at hu
    split at hu
    · simpa using hu
    · cases hu
theorem Cells.of_blk {g : Nat} {T : TypeId} {cs : Array Value} (h : Blk w g T cs) (hg : F g) (hl : xs.length = n * s) (hcs : cs.toList.take (n * s) = xs) : Cells w F (some ⟨g, 0, none⟩) n s xs :=
  ⟨hl, fun _ => ⟨g, 0, rfl, hg, h.lt, fun j u hu => by
    rw [Nat.zero_add, h.cell]
    rw [← hcs, List.getElem?_take] at hu
    split at hu
    · simpa using hu
    · cases hu⟩⟩
theorem own_turn {base : Nat} {e : TypeId} {v : Value} (h : w.ownsRow base e s v n xs) (ht : Turns G w w') (hd : ∀ g, v.ownBlock = some g → ¬ G g) : w'.ownsRow base e s v n xs := by
  refine ⟨h.1, ?_⟩
  rcases h.2 with hv | ⟨g, cap, cur, hv, hb, hh, hcs⟩
  · exact .inl hv
  · have hl : g < w.heap.size := by
      rcases Nat.lt_or_ge g w.heap.size with hlt | hge
      · exact hlt
      · rw [Array.getElem?_eq_none hge] at hh; cases hh
    exact .inr ⟨g, cap, cur, hv, hb, (ht.block g hl (hd g (by rw [hv]; rfl))).trans hh, hcs⟩
/-- The cell of an element's part. -/
theorem Cells.at_ (h : Cells w F A n s xs) {i : Nat} (hi : i < n) : ∃ b off, A = some ⟨b, off, none⟩ ∧ F b ∧ b < w.heap.size ∧ ∀ q, q < s → w.cell? ⟨b, off + i * s + q, none⟩ = xs[i * s + q]? := by
  obtain ⟨b, off, e, hb, hl, hc⟩ := h.2 (by omega)
  refine ⟨b, off, e, hb, hl, fun q hq => ?_⟩
  have hlt : i * s + q < xs.length := by
    rw [h.1]
    have : (i + 1) * s ≤ n * s := Nat.mul_le_mul_right s (by omega)
    rw [Nat.succ_mul] at this
    omega
  rw [List.getElem?_eq_getElem hlt, show off + i * s + q = off + (i * s + q) by omega]
  exact hc _ _ (List.getElem?_eq_getElem hlt)
end
end Go.Proofs.Yteegnehfagkjcaa
