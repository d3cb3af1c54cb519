/- Layer 4: panes, held against each other. -/
import Derived.Test.YtbafbhnnonfkpaaKeyW
import Derived.Laws.StructEq
namespace Go.Proofs.Ytbafbhnnonfkpaa
open Go.ChangeShapes Go.WideShapes Go.ChangeAt Go.RowKit

theorem pane_guard : Try.prog.eqGuardType Try.prog.depth 44 = false := by kernel_rfl
theorem pane_eql (k k' : ByteArray) (s s' e e' : Int) (w : World) : (binOp .eql 44 (paneV k s e) (paneV k' s' e')).run Try.prog w = .ok (.bool (k.toList == k'.toList && s == s' && e == e')) w := by
  have hS : Try.prog.underlying 44 = some (.struct (Try.prog.fieldsOf 44)) := by kernel_rfl
  have hp : Try.prog.stoodInHeld 44 = false := by kernel_rfl
  unfold paneV
  rw [run_eql_struct, show (10000 : Nat) = 9999 + 1 from rfl, run_equalIn_agg w 9999 44 _ _ hS hp]
  simp only [Program.fieldsOf, Try.underlying44]
  go_simp
  by_cases h1 : k.toList = k'.toList <;> by_cases h2 : s = s' <;> by_cases h3 : e = e' <;> simp [h1, h2, h3]
theorem pane_neq_same (k : ByteArray) (s e : Int) (w : World) : (binOp .neq 44 (paneV k s e) (paneV k s e)).run Try.prog w = .ok (.bool false) w := by
  have hS : Try.prog.underlying 44 = some (.struct (Try.prog.fieldsOf 44)) := by kernel_rfl
  have hp : Try.prog.stoodInHeld 44 = false := by kernel_rfl
  unfold paneV
  rw [run_neq_struct, show (10000 : Nat) = 9999 + 1 from rfl, run_equalIn_agg w 9999 44 _ _ hS hp]
  simp only [Program.fieldsOf, Try.underlying44]
  go_simp
theorem pane_equal_same (k : ByteArray) (s e : Int) (w : World) : (Op.equalIn 10000 44 (paneV k s e) (paneV k s e)).run Try.prog w = .ok true w := by
  have hS : Try.prog.underlying 44 = some (.struct (Try.prog.fieldsOf 44)) := by kernel_rfl
  have hp : Try.prog.stoodInHeld 44 = false := by kernel_rfl
  unfold paneV
  rw [show (10000 : Nat) = 9999 + 1 from rfl, run_equalIn_agg w 9999 44 _ _ hS hp]
  simp only [Program.fieldsOf, Try.underlying44]
  go_simp
/-- Blocks that a call has made itself, as they stand. -/
def Held (w W : World) (l : List (Nat × TypeId × Array Value)) : Prop := Below w.heap.size w W ∧ ∀ x ∈ l, Blk W x.1 x.2.1 x.2.2
theorem Held.step {w W W' : World} {l : List (Nat × TypeId × Array Value)} (h : Held w W l) (b : Below W.heap.size W W') : Held w W' l :=
  ⟨h.1.trans (b.mono h.1.size), fun x hx => (h.2 x hx).below b (h.2 x hx).lt⟩
theorem Held.new {w W : World} {l : List (Nat × TypeId × Array Value)} (h : Held w W l) (cs : Array Value) (t : TypeId) : Held w (W.alloc (.cells cs t)) ((W.heap.size, t, cs) :: l) := by
  have h1 := h.step ((Below.refl W.heap.size W).alloc (Nat.le_refl _) (.cells cs t))
  refine ⟨h1.1, fun x hx => ?_⟩
  rcases List.mem_cons.1 hx with rfl | hx
  · exact Blk.new W t cs
  · exact h1.2 x hx
/-- What a row tells of a pane: where its key, its start, its end stand. -/
def PI (i j m : Nat) (o : Option (List Ky.Part)) (k : ByteArray) (st en : Int) : Prop := match o with
  | none => k = ⟨#[]⟩ ∧ st = 0 ∧ en = 0
  | some l => nums k = (l.getD i ⟨0, 0, []⟩).t ∧ st = (l.getD j ⟨0, 0, []⟩).n ∧ en = (l.getD m ⟨0, 0, []⟩).n
theorem PI.one {i j m : Nat} {o : Option (List Ky.Part)} {k k' : ByteArray} {s s' e e' : Int} (h : PI i j m o k s e) (h' : PI i j m o k' s' e') : k = k' ∧ s = s' ∧ e = e' := by
  unfold PI at h h'
  cases o with
  | none => exact ⟨h.1.trans h'.1.symm, h.2.1.trans h'.2.1.symm, h.2.2.trans h'.2.2.symm⟩
  | some l => exact ⟨nums_inj (h.1.trans h'.1.symm), h.2.1.trans h'.2.1.symm, h.2.2.trans h'.2.2.symm⟩
theorem ofP_val {w : World} {o : Option (List Ky.Part)} {e : Ending} {w' : World} (h : OfP w o e w') : ∃ k st en, PI 0 2 1 o k st en ∧ e = .returned (.tuple #[paneV k st en, .bool o.isSome]) ∧ Below w.heap.size w w' := by
  unfold OfP at h
  cases o with
  | none => exact ⟨_, _, _, ⟨rfl, rfl, rfl⟩, h⟩
  | some l =>
    obtain ⟨x, y, z, rfl, h1, h2⟩ := h
    exact ⟨_, _, _, ⟨rfl, rfl, rfl⟩, h1, h2⟩
theorem ofS_val {w : World} {o : Option (List Ky.Part)} {e : Ending} {w' : World} (h : OfS w o e w') : ∃ k st en, PI 1 2 0 o k st en ∧ e = .returned (.tuple #[paneV k st en, .bool o.isSome]) ∧ Below w.heap.size w w' := by
  unfold OfS at h
  cases o with
  | none => exact ⟨_, _, _, ⟨rfl, rfl, rfl⟩, h⟩
  | some l =>
    obtain ⟨x, y, z, rfl, h1, h2⟩ := h
    exact ⟨_, _, _, ⟨rfl, rfl, rfl⟩, h1, h2⟩
def big (n : Int) : Prop := -9223372036854775808 ≤ n ∧ n ≤ 9223372036854775807
theorem prim_normal (k : ByteArray) (s e : Int) (hs : big s) (he : big e) : (∀ p ∈ tos (primL k s e), Ky.Normal p) ∧ (∀ p ∈ tos (secL k s e), Ky.Normal p) := by
  have h1 : Ky.Normal (PT.to ⟨2, 0, k⟩) := .inr ⟨rfl, rfl, nums_byte k⟩
  have h2 : Ky.Normal (PT.to ⟨1, e, ⟨#[]⟩⟩) := .inl ⟨rfl, rfl, he⟩
  have h3 : Ky.Normal (PT.to ⟨1, s, ⟨#[]⟩⟩) := .inl ⟨rfl, rfl, hs⟩
  constructor
  · intro p hp
    simp [tos, primL] at hp
    rcases hp with rfl | rfl | rfl <;> assumption
  · intro p hp
    simp [tos, secL] at hp
    rcases hp with rfl | rfl | rfl <;> assumption
theorem prim_parse (k : ByteArray) (s e : Int) (hs : big s) (he : big e) (T : ByteArray) (hT : nums T = Ky.put (tos (primL k s e))) : Ky.parse (nums T) [2, 1, 1] = some (tos (primL k s e)) :=
  (Ky.parse_iff _ _ (nums_byte T) _).2 ⟨rfl, (prim_normal k s e hs he).1, hT.symm⟩
theorem sec_parse (k : ByteArray) (s e : Int) (hs : big s) (he : big e) (T : ByteArray) (hT : nums T = Ky.put (tos (secL k s e))) : Ky.parse (nums T) [1, 2, 1] = some (tos (secL k s e)) :=
  (Ky.parse_iff _ _ (nums_byte T) _).2 ⟨rfl, (prim_normal k s e hs he).2, hT.symm⟩
theorem prim_len (k : ByteArray) (s e : Int) (hk : k.size ≤ 1000) (T : ByteArray) (hT : nums T = Ky.put (tos (primL k s e)) ∨ nums T = Ky.put (tos (secL k s e))) : T.size ≤ 1000000 := by
  have h1 := esc_len (nums k)
  rw [nums_len] at h1
  rw [← nums_len]
  rcases hT with h | h <;>
  · rw [h]
    simp only [tos, primL, secL, List.map_cons, List.map_nil, Ky.put, Ky.enc, PT.to, List.length_append, Ky.text, List.length_nil, if_true]
    rw [if_neg (by decide)]
    simp only [List.length_append, Pk.be_len, List.length_cons, List.length_nil]
    omega
theorem PI.prim {k k' : ByteArray} {s s' e e' : Int} (h : PI 0 2 1 (some (tos (primL k s e))) k' s' e') : k' = k ∧ s' = s ∧ e' = e := PI.one h ⟨rfl, rfl, rfl⟩
theorem PI.sec {k k' : ByteArray} {s s' e e' : Int} (h : PI 1 2 0 (some (tos (secL k s e))) k' s' e') : k' = k ∧ s' = s ∧ e' = e := PI.one h ⟨rfl, rfl, rfl⟩
end Go.Proofs.Ytbafbhnnonfkpaa
