/- Layer 6's plain mathematics: an operation, taken of bytes. -/
import Derived.Test.YtbcdacfmhjgfiaaEvIn
import Derived.Test.YtbcdacfmhjgfiaaRd6
import Derived.Test.YtbcdacfmhjgfiaaHeld
namespace Go.Proofs.Ytbcdacfmhjgfiaa
open Go.ChangeShapes Go.WideShapes Go.ChangeAt Go.RowKit

theorem Held.sub {w W : World} {l l' : List (Nat × TypeId × Array Value)} (h : Held w W l) (hs : ∀ x ∈ l', x ∈ l) : Held w W l' := ⟨h.1, fun x hx => h.2 x (hs x hx)⟩
theorem Held.set1 {w W : World} {l : List (Nat × TypeId × Array Value)} {g T : Nat} {cs : Array Value} (h : Held w W ((g, T, cs) :: l)) (hg : w.heap.size ≤ g) (hl : ∀ x ∈ l, x.1 ≠ g) (i : Nat) (u : Value) : Held w (W.setCell ⟨g, i, none⟩ u) ((g, T, cs.setIfInBounds i u) :: l) := by
  refine ⟨h.1.setCell (p := ⟨g, i, none⟩) hg u, fun x hx => ?_⟩
  rcases List.mem_cons.1 hx with rfl | hx
  · exact (h.2 _ (List.mem_cons_self ..)).set_ i u
  · exact (h.2 x (List.mem_cons_of_mem _ hx)).far (fun e => hl x hx e.symm) u
theorem Held.lt {w W : World} {l : List (Nat × TypeId × Array Value)} {x : Nat × TypeId × Array Value} (h : Held w W l) (hx : x ∈ l) : x.1 < W.heap.size := (h.2 x hx).lt
namespace Ev
/-- A number of 64 digits, as the program's int64. -/
def sg (m : Nat) : Int := IntKind.i64.wrap (m : Int)
/-- Of bytes: the error, the operation, and how many bytes it has. -/
def nx : List Nat → Int × Evo × Nat
  | [] => (20, none', 0)
  | k :: r =>
    if k = 1 then
      (if Pk.tfails false r = true then (20, none', 0)
       else if (Pk.tleft false r).length < 16 then (20, none', 0)
       else (0, ⟨1, textOf (Pk.ttaken false r), sg (Pk.num ((Pk.tleft false r).take 8)), sg (Pk.num (((Pk.tleft false r).drop 8).take 8))⟩, 1 + (2 + Pk.tlen false r) + 16))
    else if k = 2 then (if r.length < 8 then (20, none', 0) else (0, ⟨2, ⟨#[]⟩, sg (Pk.num (r.take 8)), 0⟩, 9))
    else (80, none', 0)
end Ev
section
variable {n c a k B : Nat} {A : Option Addr} {b : List Nat} {f : Bool} {w : World}
theorem take_no (hb : Bytes w B A n b) (hB : B ≤ w.heap.size) (hn : n ≤ 1000000) (ha : a ≤ n) (hk : k ≤ 8) (hf : Pk.fails f (b.drop a) k = true) :
    Calls Try.prog 46 #[.agg #[.slice A n c, .int .i64 (a : Int), .bool f], .int .i64 (k : Int)] w fun e w' => e = .returned (.tuple #[.int .u64 0, .agg #[.slice A n c, .int .i64 (a : Int), .bool true]]) ∧ Below w.heap.size w w' := by
  refine (refTake_any n c a k B A b f w hb hB hn ha hk).mono fun e w' hp => ?_
  unfold RTake at hp
  rw [Pk.taken_yes hf, goes_yes hf, hf] at hp
  exact hp
theorem take_yes (hb : Bytes w B A n b) (hB : B ≤ w.heap.size) (hn : n ≤ 1000000) (ha : a ≤ n) (hk : k ≤ 8) (hf : k ≤ (b.drop a).length) :
    Calls Try.prog 46 #[.agg #[.slice A n c, .int .i64 (a : Int), .bool false], .int .i64 (k : Int)] w fun e w' => e = .returned (.tuple #[.int .u64 ((Pk.num ((b.drop a).take k) : Nat) : Int), .agg #[.slice A n c, .int .i64 ((a + k : Nat) : Int), .bool false]]) ∧ Below w.heap.size w w' := by
  have hf' := Pk.fails_no hf
  refine (refTake_any n c a k B A b false w hb hB hn ha hk).mono fun e w' hp => ?_
  unfold RTake at hp
  rw [Pk.taken_no hf', goes_no hf', hf'] at hp
  exact hp
theorem text_no (hb : Bytes w B A n b) (hB : B ≤ w.heap.size) (hn : n ≤ 1000000) (ha : a ≤ n) (hc : n ≤ c) (hf : Pk.tfails f (b.drop a) = true) :
    Calls Try.prog 47 #[.agg #[.slice A n c, .int .i64 (a : Int), .bool f]] w fun e w' => e = .returned (.tuple #[.string (textOf []), .agg #[.slice A n c, .int .i64 (a : Int), .bool true]]) ∧ Below w.heap.size w w' := by
  refine (refTakeText_any n c a B A b f w hb hB hn ha hc).mono fun e w' hp => ?_
  unfold RText at hp
  rw [Pk.ttaken_yes hf, tgoes_yes hf, hf] at hp
  exact hp
theorem text_yes (hb : Bytes w B A n b) (hB : B ≤ w.heap.size) (hn : n ≤ 1000000) (ha : a ≤ n) (hc : n ≤ c) (hf : Pk.tfails false (b.drop a) = false) :
    Calls Try.prog 47 #[.agg #[.slice A n c, .int .i64 (a : Int), .bool false]] w fun e w' => e = .returned (.tuple #[.string (textOf (Pk.ttaken false (b.drop a))), .agg #[.slice A n c, .int .i64 ((a + (2 + Pk.tlen false (b.drop a)) : Nat) : Int), .bool false]]) ∧ Below w.heap.size w w' := by
  refine (refTakeText_any n c a B A b false w hb hB hn ha hc).mono fun e w' hp => ?_
  unfold RText at hp
  rw [tgoes_no hf, hf] at hp
  exact hp
end
section
variable {n a k : Nat} {b : List Nat} {f : Bool}
theorem goes_le (hb : b.length = n) (ha : a ≤ n) : goes f (b.drop a) a k ≤ n := by
  unfold goes
  split
  · exact ha
  · rename_i h
    have := (Pk.fails_iff.1 (by simpa using h)).2
    rw [List.length_drop, hb] at this
    omega
theorem tgoes_le (hb : b.length = n) (ha : a ≤ n) : tgoes f (b.drop a) a ≤ n := by
  unfold tgoes
  split
  · exact ha
  · rename_i h
    have h1 := Pk.tfails_iff.1 (by simpa using h)
    have h2 := (Pk.fails_iff.1 h1.1).2
    have h3 := h1.2
    rw [List.length_drop, hb] at h2 h3
    omega
end
theorem fails_true (l : List Nat) (k : Nat) : Pk.fails true l k = true := Pk.fails_yes (.inl rfl)
/-- The reader's words for an event: text, time, value; and what nx tells of them. -/
theorem nx_one {b r : List Nat} {a : Nat} (h : b.drop a = 1 :: r) {p1 p2 p3 : Nat} {f1 f2 f3 : Bool} (h1 : tgoes false (b.drop (a + 1)) (a + 1) = p1) (g1 : Pk.tfails false (b.drop (a + 1)) = f1)
    (h2 : goes f1 (b.drop p1) p1 8 = p2) (g2 : Pk.fails f1 (b.drop p1) 8 = f2) (h3 : goes f2 (b.drop p2) p2 8 = p3) (g3 : Pk.fails f2 (b.drop p2) 8 = f3) :
    Ev.nx (b.drop a) = if f3 = true then (20, Ev.none', 0) else (0, ⟨1, textOf (Pk.ttaken false (b.drop (a + 1))), Ev.sg (Pk.num (Pk.taken f1 (b.drop p1) 8)), Ev.sg (Pk.num (Pk.taken f2 (b.drop p2) 8))⟩, p3 - a) := by
  have hr : b.drop (a + 1) = r := by
    rw [show a + 1 = a + 1 from rfl, ← List.drop_drop, h]; rfl
  rw [h]
  unfold Ev.nx
  dsimp only
  rw [if_pos rfl, hr]
  rw [hr] at h1 g1
  rcases hf : Pk.tfails false r with _ | _
  · rw [hf] at g1
    subst g1
    rw [if_neg (by decide)]
    rw [tgoes_no hf] at h1
    have hp1 : b.drop p1 = Pk.tleft false r := by
      rw [Pk.tleft_no hf, ← h1]
      generalize 2 + Pk.tlen false r = m
      rw [← hr, List.drop_drop]
    rw [hp1] at h2 g2 ⊢
    rcases Nat.lt_or_ge (Pk.tleft false r).length 8 with h8 | h8
    · have e2 : Pk.fails false (Pk.tleft false r) 8 = true := Pk.fails_yes (.inr h8)
      rw [e2] at g2
      subst g2
      rw [fails_true] at g3
      subst g3
      rw [if_pos (by omega), if_pos rfl]
    · have e2 : Pk.fails false (Pk.tleft false r) 8 = false := Pk.fails_no h8
      rw [e2] at g2
      subst g2
      rw [goes_no e2] at h2
      have hp2 : b.drop p2 = (Pk.tleft false r).drop 8 := by rw [← hp1, List.drop_drop, ← h2]
      rw [hp2] at h3 g3 ⊢
      have hl : ((Pk.tleft false r).drop 8).length = (Pk.tleft false r).length - 8 := List.length_drop
      rcases Nat.lt_or_ge (Pk.tleft false r).length 16 with h16 | h16
      · have e3 : Pk.fails false ((Pk.tleft false r).drop 8) 8 = true := Pk.fails_yes (.inr (by omega))
        rw [e3] at g3
        subst g3
        rw [if_pos h16, if_pos rfl]
      · have e3 : Pk.fails false ((Pk.tleft false r).drop 8) 8 = false := Pk.fails_no (by omega)
        rw [e3] at g3
        subst g3
        rw [goes_no e3] at h3
        rw [if_neg (by omega), if_neg (by decide), Pk.taken_no e2, Pk.taken_no e3]
        have : p3 - a = 1 + (2 + Pk.tlen false r) + 16 := by omega
        rw [this]
  · rw [hf] at g1
    subst g1
    rw [if_pos rfl]
    rw [fails_true] at g2
    subst g2
    rw [fails_true] at g3
    subst g3
    rw [if_pos rfl]
theorem nx_two {b r : List Nat} {a : Nat} (h : b.drop a = 2 :: r) {p2 : Nat} {f2 : Bool} (h2 : goes false (b.drop (a + 1)) (a + 1) 8 = p2) (g2 : Pk.fails false (b.drop (a + 1)) 8 = f2) :
    Ev.nx (b.drop a) = if f2 = true then (20, Ev.none', 0) else (0, ⟨2, ⟨#[]⟩, Ev.sg (Pk.num (Pk.taken false (b.drop (a + 1)) 8)), 0⟩, p2 - a) := by
  have hr : b.drop (a + 1) = r := by
    rw [← List.drop_drop, h]; rfl
  rw [h]
  unfold Ev.nx
  dsimp only
  rw [if_neg (by decide), if_pos rfl, hr]
  rw [hr] at h2 g2
  rcases Nat.lt_or_ge r.length 8 with h8 | h8
  · have e2 : Pk.fails false r 8 = true := Pk.fails_yes (.inr h8)
    rw [e2] at g2
    subst g2
    rw [if_pos h8, if_pos rfl]
  · have e2 : Pk.fails false r 8 = false := Pk.fails_no h8
    rw [e2] at g2
    subst g2
    rw [goes_no e2] at h2
    rw [if_neg (by omega), if_neg (by decide), Pk.taken_no e2]
    have : p2 - a = 9 := by omega
    rw [this]
theorem nx_else {b r : List Nat} {a k : Nat} (h : b.drop a = k :: r) (h1 : k ≠ 1) (h2 : k ≠ 2) : Ev.nx (b.drop a) = (80, Ev.none', 0) := by
  rw [h]
  unfold Ev.nx
  dsimp only
  rw [if_neg h1, if_neg h2]
end Go.Proofs.Ytbcdacfmhjgfiaa
