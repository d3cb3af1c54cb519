/- Layer 11, the program: Has, Get, Len; nil ones. -/
import Derived.Test.YtgpcpjjdneimfaaDoorArF
namespace Go.Proofs.YtgpcpjjdneimfaaDoor
open Go.ChangeShapes Go.WideShapes Go.ChangeAt Go.RowKit

theorem has_iff (L : List Ar.Pl) (x1 x2 : Int) : Ar.has L (x1, x2) = true ↔ ∃ (i : Nat) (p : Ar.Pl), x1 = (i : Int) ∧ L[i]? = some p ∧ (p.turn : Int) = x2 ∧ p.used = true := by
  unfold Ar.has
  rw [Bool.and_eq_true, decide_eq_true_eq]
  constructor
  · rintro ⟨h0, h1⟩
    simp only at h0 h1
    split at h1
    · rename_i p hp
      rw [Bool.and_eq_true, decide_eq_true_eq] at h1
      exact ⟨x1.toNat, p, by omega, hp, h1.2, h1.1⟩
    · cases h1
  · rintro ⟨i, p, rfl, hp, ht, hu⟩
    refine ⟨by show (0 : Int) ≤ i; omega, ?_⟩
    simp only [Int.toNat_natCast, hp, ht, hu, decide_true, Bool.and_true]
def FindE (w : World) (L : List Ar.Pl) (A : Option Nat) (x : Int × Int) (e : Ending) (w' : World) : Prop :=
  (Ar.has L x = true ∧ ∃ b, A = some b ∧ FindP w (some ⟨b, x.1.toNat * 6, none⟩) 0 e w') ∨ (Ar.has L x = false ∧ FindP w none 110 e w')
section
variable {w : World} {P : Nat → Prop} {g : Nat} {L : List Ar.Pl} {A : Option Nat} {c : Nat} {mv : Option Nat} {f : Nat → Nat → Nat} {V : List NdV}
theorem ArMem.find (h : ArMem w P g L A c mv f V) (hl : L.length ≤ 1000000) (x1 x2 : Int) : Calls Tryd.prog 35 #[.pointer (some ⟨g, 0, none⟩), .agg #[.int .i64 x1, .int .i64 x2]] w (FindE w L A (x1, x2)) := by
  have no : ∀ (hh : ¬ ∃ (i : Nat) (p : Ar.Pl), x1 = (i : Int) ∧ L[i]? = some p ∧ (p.turn : Int) = x2 ∧ p.used = true), Ar.has L (x1, x2) = false := fun hh => by
    rw [← has_iff] at hh
    simpa using hh
  rcases Int.lt_or_le x1 0 with hx | hx
  · refine (find_low w P g L A c mv f V h x1 x2 hx).mono fun e w' hp => .inr ⟨no ?_, hp⟩
    rintro ⟨i, p, rfl, _⟩
    omega
  · obtain ⟨i, rfl⟩ : ∃ i : Nat, x1 = i := ⟨x1.toNat, by omega⟩
    rcases Nat.lt_or_ge i L.length with hi | hi
    · have hp : L[i]? = some L[i] := List.getElem?_eq_getElem hi
      by_cases he : (L[i].turn : Int) = x2
      · by_cases hu : L[i].used = true
        · refine (find_yes w P g L A c mv f V h i L[i] x2 hp hl he hu).mono fun e w' hq => .inl ⟨(has_iff L _ _).2 ⟨i, L[i], rfl, hp, he, hu⟩, ?_⟩
          obtain ⟨b, hb, hq⟩ := hq
          exact ⟨b, hb, hq⟩
        · refine (find_waits w P g L A c mv f V h i L[i] x2 hp hl he (by simpa using hu)).mono fun e w' hq => .inr ⟨no ?_, hq⟩
          rintro ⟨j, p, hj, hpj, _, hu2⟩
          obtain rfl : i = j := by omega
          rw [hp] at hpj
          cases hpj
          exact hu hu2
      · refine (find_turn w P g L A c mv f V h i L[i] x2 hp he).mono fun e w' hq => .inr ⟨no ?_, hq⟩
        rintro ⟨j, p, hj, hpj, he2, _⟩
        obtain rfl : i = j := by omega
        rw [hp] at hpj
        cases hpj
        exact he he2
    · refine (find_high w P g L A c mv f V h i x2 (by omega) (by omega)).mono fun e w' hq => .inr ⟨no ?_, hq⟩
      rintro ⟨j, p, hj, hpj, _⟩
      obtain rfl : i = j := by omega
      rw [List.getElem?_eq_none hi] at hpj
      cases hpj
end
theorem fits_nodeIn {w : World} {b i : Nat} {p : Ar.Pl} {v : NdV} (hc : ∀ j, j < 6 → w.cell? ⟨b, i * 6 + j, none⟩ = (rowOf i p v)[j]?) :
    w.cell? ⟨b, i * 6, none⟩ = some (.int .i64 (i : Int)) ∧ w.cell? ⟨b, i * 6 + 1, none⟩ = some (.int .i64 (p.turn : Int)) ∧ w.cell? ⟨b, i * 6 + 2, none⟩ = some (.bool p.nd.leaf) ∧ w.cell? ⟨b, i * 6 + 3, none⟩ = some (.slice v.A1 v.n1 v.c1) ∧ w.cell? ⟨b, i * 6 + 4, none⟩ = some (.slice v.A2 v.n2 v.c2) ∧ w.cell? ⟨b, i * 6 + 5, none⟩ = some (.slice v.A3 v.n3 v.c3) :=
  ⟨hc 0 (by omega), hc 1 (by omega), hc 2 (by omega), hc 3 (by omega), hc 4 (by omega), hc 5 (by omega)⟩
def BoolP (w : World) (b : Bool) (e : Ending) (w' : World) : Prop := e = .returned (.bool b) ∧ Below w.heap.size w w'
set_option maxRecDepth 100000 in
theorem arHas_nil (w : World) (x1 x2 : Int) : Calls Tryd.prog 18 #[.pointer none, .agg #[.int .i64 x1, .int .i64 x2]] w (BoolP w false) := by
  go_enter Tryd.func18, Tryd.ntmps18
  go_wp2_with fail
  refine (find_nil _ x1 x2).mono ?_
  rintro e w1 ⟨rfl, hb⟩
  have HB := Lib.hid hb
  clear hb
  go_wp2_with fail
  go_ret
  exact ⟨rfl, below_one (Below.refl _ _) HB.out⟩
set_option maxRecDepth 100000 in
theorem arHas_any (w : World) (P : Nat → Prop) (g : Nat) (L : List Ar.Pl) (h : ArIn w P g L) (hl : L.length ≤ 1000000) (x1 x2 : Int) : Calls Tryd.prog 18 #[.pointer (some ⟨g, 0, none⟩), .agg #[.int .i64 x1, .int .i64 x2]] w (BoolP w (Ar.has L (x1, x2))) := by
  obtain ⟨A, c, mv, f, V, h⟩ := h
  have hf := (h.below (w' := w.alloc (.cells #[.int .i64 x1, .int .i64 x2] 42)) ((Below.refl _ _).alloc (Nat.le_refl _) _)).find hl x1 x2
  have HF := Lib.hid hf
  clear hf h
  go_enter Tryd.func18, Tryd.ntmps18
  go_wp2_with fail
  refine HF.out.mono ?_
  rintro e w1 (⟨hh, b, rfl, rfl, hb⟩ | ⟨hh, rfl, hb⟩)
  · have HB := Lib.hid (And.intro hh hb)
    clear hb hh
    go_wp2_with fail
    go_ret
    exact ⟨by rw [HB.out.1]; rfl, below_one (Below.refl _ _) HB.out.2⟩
  · have HB := Lib.hid (And.intro hh hb)
    clear hb hh
    go_wp2_with fail
    go_ret
    exact ⟨by rw [HB.out.1]; rfl, below_one (Below.refl _ _) HB.out.2⟩
def LenP (w : World) (u n : Int) (e : Ending) (w' : World) : Prop := e = .returned (.tuple #[.int .i64 u, .int .i64 n]) ∧ Below w.heap.size w w'
set_option maxRecDepth 100000 in
theorem arLen_nil (w : World) : Calls Tryd.prog 25 #[.pointer none] w (LenP w 0 0) := by
  go_enter Tryd.func25, Tryd.ntmps25
  go_wp2_with fail
  go_ret2
  exact ⟨rfl, Below.refl _ _⟩
theorem free_used (L : List Ar.Pl) : (L.length : Int) - (freeN L : Int) = ((Ar.used L).length : Int) := by
  rw [Ar.used_length]
  have : freeN L + L.countP (·.used) = L.length := by
    unfold freeN
    induction L with
    | nil => rfl
    | cons p r ih =>
      rw [List.countP_cons, List.countP_cons, List.length_cons, ← ih]
      cases p.used <;> simp <;> omega
  omega
set_option maxRecDepth 100000 in
theorem arLen_any (w : World) (P : Nat → Prop) (g : Nat) (L : List Ar.Pl) (h : ArIn w P g L) (hl : L.length ≤ 1000000) : Calls Tryd.prog 25 #[.pointer (some ⟨g, 0, none⟩)] w (LenP w ((Ar.used L).length : Int) (L.length : Int)) := by
  obtain ⟨A, c, mv, f, V, h⟩ := h
  have b0 := h.blk.cell 0
  have b2 := h.blk.cell 2
  have hu := free_used L
  simp only [List.getElem?_toArray, List.getElem?_cons_zero, List.getElem?_cons_succ] at b0 b2
  obtain ⟨n, hn⟩ : ∃ n, L.length = n := ⟨_, rfl⟩
  obtain ⟨k, hk⟩ : ∃ k, freeN L = k := ⟨_, rfl⟩
  obtain ⟨u, hu2⟩ : ∃ u, (Ar.used L).length = u := ⟨_, rfl⟩
  rw [hn] at b0 hu hl ⊢
  rw [hk] at b2 hu
  rw [hu2] at hu ⊢
  have hkn : k ≤ n := by omega
  have HU := Lib.hid hu
  clear h hn hk hu2 hu
  go_enter Tryd.func25, Tryd.ntmps25
  go_wp2_with fail
  go_quiet (fail)
  go_wp2_with fail
  go_ret2
  exact ⟨by show Ending.returned (.tuple #[.int .i64 ((n : Int) - (k : Int)), .int .i64 (n : Int)]) = _; rw [HU.out], below_drewN (Below.refl _ _) _⟩
end Go.Proofs.YtgpcpjjdneimfaaDoor
