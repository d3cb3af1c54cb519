/- Layer 11, the program: Free. -/
import Derived.Test.YtgpcpjjdneimfaaDoorArE
namespace Go.Proofs.YtgpcpjjdneimfaaDoor
open Go.ChangeShapes Go.WideShapes Go.ChangeAt Go.RowKit

def PutAny (w : World) (g n : Nat) (sl : Value) (mv : Option Nat) (c : Int) (S : Nat → Prop) (e : Ending) (w' : World) : Prop :=
  e = .returned (.tuple #[]) ∧ ∃ mb f', Blk w' g 73 #[sl, .map (some mb), .int .i64 (c + 1)] ∧ Words w' (some mb) f' ∧ Wt.Rep (Wt.with_ S n) f' ∧ Turns (fun b => b = g ∨ mv = some b) w w' ∧ (mv = some mb ∨ (mv = none ∧ w.heap.size ≤ mb ∧ mb < w'.heap.size))
theorem put_any (w : World) (g n : Nat) (sl : Value) (mv : Option Nat) (c : Int) (S : Nat → Prop) (f : Nat → Nat → Nat) (hb : Blk w g 73 #[sl, .map mv, .int .i64 c]) (hw : Words w mv f) (hr : Wt.Rep S f) (hn : n < 64 ^ 6) (hc : 0 ≤ c) (hc2 : c < 4611686018427387904) :
    Calls Tryd.prog 42 #[.pointer (some ⟨g, 1, none⟩), .int .i64 (n : Int)] w (PutAny w g n sl mv c S) := by
  cases mv with
  | none =>
    refine (put_none w g n sl c S f hb hw hr hn hc hc2).mono fun e w' h => ⟨h.1, ?_⟩
    obtain ⟨f', h1, h2, h3, h4⟩ := h.2
    exact ⟨w.heap.size, f', h1, h2, h3, h4.mono (by rintro x hx (e | e); exact .inl e; omega), .inr ⟨rfl, Nat.le_refl _, h2.lt⟩⟩
  | some mb =>
    refine (put_some w g n mb sl c S f hb hw hr hn hc hc2).mono fun e w' h => ⟨h.1, ?_⟩
    obtain ⟨f', h1, h2, h3, h4⟩ := h.2
    exact ⟨mb, f', h1, h2, h3, h4.mono (by rintro x hx (e | e); exact .inl e; exact .inr (by rw [e])), .inl rfl⟩
def freed (L : List Ar.Pl) (l : List (Int × Int)) : List Ar.Pl := l.foldl Ar.free1 L
theorem free1_set {L : List Ar.Pl} {i : Nat} {p : Ar.Pl} (hp : L[i]? = some p) : Ar.free1 L ((i : Int), (p.turn : Int)) = L.set i ⟨false, p.turn, Ar.Nd.blank⟩ := by
  have hi := (List.getElem?_eq_some_iff.1 hp).1
  unfold Ar.free1 Ar.put
  simp only [Int.toNat_natCast]
  rw [if_neg (by omega)]
theorem has_other {L : List Ar.Pl} {x y : Int × Int} (hx : Ar.has L x = true) (hy : Ar.has L y = true) (hne : y ≠ x) : Ar.has (Ar.free1 L x) y = true := by
  obtain ⟨i, p, e1, hp, ht, hu⟩ := (has_iff L x.1 x.2).1 hx
  obtain ⟨j, q, e2, hq, hs, hv⟩ := (has_iff L y.1 y.2).1 hy
  obtain ⟨x1, x2⟩ := x
  obtain ⟨y1, y2⟩ := y
  simp only at e1 ht e2 hs
  subst e1 ht e2 hs
  rw [free1_set hp]
  refine (has_iff _ _ _).2 ⟨j, q, rfl, ?_, rfl, hv⟩
  rw [List.getElem?_set_ne, hq]
  rintro rfl
  rw [hp] at hq
  cases hq
  exact hne rfl
theorem freed_has {L : List Ar.Pl} (l : List (Int × Int)) (x : Int × Int) (hl : ∀ y ∈ l, Ar.has L y = true) (hn : l.Nodup) (hx : Ar.has L x = true) (hm : x ∉ l) : Ar.has (freed L l) x = true := by
  induction l generalizing L with
  | nil => exact hx
  | cons y r ih =>
    rw [List.nodup_cons] at hn
    have hy := hl y (List.mem_cons_self ..)
    refine ih (L := Ar.free1 L y) (fun z hz => has_other hy (hl z (List.mem_cons_of_mem _ hz)) (by rintro rfl; exact hn.1 hz)) hn.2 (has_other hy hx (fun e => hm (by rw [e]; exact List.mem_cons_self ..))) (fun h => hm (List.mem_cons_of_mem _ h))
theorem freed_snoc (L : List Ar.Pl) (l : List (Int × Int)) (x : Int × Int) : freed L (l ++ [x]) = Ar.free1 (freed L l) x := by simp [freed, List.foldl_append]
theorem Few.free1 {L : List Ar.Pl} {k : Nat} (h : Few L k) {x : Int × Int} (hx : Ar.has L x = true) : Few (Ar.free1 L x) k := by
  obtain ⟨i, p, e1, hp, ht, hu⟩ := (has_iff L x.1 x.2).1 hx
  obtain ⟨x1, x2⟩ := x
  simp only at e1 ht
  subst e1 ht
  rw [free1_set hp]
  refine ⟨by rw [List.length_set]; exact h.len, fun j q hq => ?_⟩
  by_cases e : j = i
  · subst e
    rw [List.getElem?_set_self (List.getElem?_eq_some_iff.1 hp).1] at hq
    cases hq
    exact h.turn j p hp
  · rw [List.getElem?_set_ne (fun hh => e hh.symm)] at hq
    exact h.turn j q hq
theorem freed_few {L : List Ar.Pl} {k : Nat} (l : List (Int × Int)) (h : Few L k) (hl : ∀ y ∈ l, Ar.has L y = true) (hn : l.Nodup) : Few (freed L l) k := by
  induction l generalizing L with
  | nil => exact h
  | cons y r ih =>
    rw [List.nodup_cons] at hn
    have hy := hl y (List.mem_cons_self ..)
    exact ih (h.free1 hy) (fun z hz => has_other hy (hl z (List.mem_cons_of_mem _ hz)) (by rintro rfl; exact hn.1 hz)) hn.2
/-- The rows of a block whose row s has a blank node now. -/
theorem rows_node {cs : Array Value} {c s : Nat} {L' : List Ar.Pl} {V' : List NdV} {q : Ar.Pl} {v' : NdV} (hs : s < c) (hz : cs.size = c * 6) (h0 : cs[s * 6]? = some (.int .i64 (s : Int))) (h1 : cs[s * 6 + 1]? = some (.int .i64 (q.turn : Int))) (hq : L'[s]? = some q) (hv : V'[s]? = some v')
    (ho : ∀ (i : Nat) (p : Ar.Pl) (v : NdV), i ≠ s → L'[i]? = some p → V'[i]? = some v → ∀ j, j < 6 → cs[i * 6 + j]? = (rowOf i p v)[j]?) :
    ∀ (i : Nat) (p : Ar.Pl) (v : NdV), L'[i]? = some p → V'[i]? = some v → ∀ j, j < 6 → ((((cs.setIfInBounds (s * 6 + 2) (.bool q.nd.leaf)).setIfInBounds (s * 6 + 2 + 1) (.slice v'.A1 v'.n1 v'.c1)).setIfInBounds (s * 6 + 2 + 2) (.slice v'.A2 v'.n2 v'.c2)).setIfInBounds (s * 6 + 2 + 3) (.slice v'.A3 v'.n3 v'.c3))[i * 6 + j]? = (rowOf i p v)[j]? := by
  have h2 := rows_stored hs hz h0 hq hv ho
  have e : cs.setIfInBounds (s * 6 + 1) (.int .i64 (q.turn : Int)) = cs := by
    apply Array.ext_getElem?
    intro k
    rw [Array.getElem?_setIfInBounds]
    split
    · rename_i hk
      subst hk
      rw [h1, if_pos (by omega)]
    · rfl
  rw [e] at h2
  exact h2
def FreeP (w : World) (P : Nat → Prop) (g : Nat) (L : List Ar.Pl) (l : List (Int × Int)) (e : Ending) (w' : World) : Prop :=
  ((l.all (Ar.has L) && decide l.Nodup) = true ∧ e = .returned (.int .i64 0) ∧ ArIn w' (grow P w w') g (freed L l) ∧ Turns P w w') ∨
  ((l.all (Ar.has L) && decide l.Nodup) = false ∧ e = .returned (.int .i64 110) ∧ Below w.heap.size w w')
theorem grow_low {P : Nat → Prop} {w w' : World} (hw : 0 < w.heap.size) (h : ∀ b, P b → 0 < b) : ∀ b, grow P w w' b → 0 < b := fun b hb => hb.elim (h b) (fun hb => by omega)
theorem ArIn.low {w : World} {P : Nat → Prop} {g : Nat} {L : List Ar.Pl} (h : ArIn w P g L) : (∀ b, P b → 0 < b) ∧ 0 < w.heap.size ∧ P g ∧ g < w.heap.size := by
  obtain ⟨A, c, mv, f, V, h⟩ := h
  exact ⟨h.low, Nat.lt_of_le_of_lt (Nat.zero_le _) h.blk.lt, h.pg, h.blk.lt⟩
/-- A number is free from now on. -/
theorem ArMem.freeOne {w w1 w2 : World} {P : Nat → Prop} {g : Nat} {L : List Ar.Pl} {b c : Nat} {mv : Option Nat} {f : Nat → Nat → Nat} {V : List NdV} (h : ArMem w P g L (some b) c mv f V) {i : Nat} {p : Ar.Pl} (hp : L[i]? = some p) (hu : p.used = true)
    (hw1 : setNode w b (i * 6 + 2) (.bool false) (.slice none 0 0) (.slice none 0 0) (.slice none 0 0) = w1) (hput : PutAny w1 g i (.slice (some ⟨b, 0, none⟩) L.length c) mv (freeN L : Int) (Fr L) (.returned (.tuple #[])) w2) :
    ArIn w2 (grow P w w2) g (L.set i ⟨false, p.turn, Ar.Nd.blank⟩) ∧ Turns P w w2 := by
  obtain ⟨-, mb, f', h1, h2, h3, h4, h5⟩ := hput
  have hi : i < L.length := (List.getElem?_eq_some_iff.1 hp).1
  obtain ⟨cs, hcs, hcap, hcm, hcz, hrows⟩ := h.cells
  have hbg : b ≠ g := hcs.kind h.blk (by decide)
  have hbm : mv ≠ some b := by
    rintro rfl
    exact h.words.ne hcs rfl
  have t01 : Turns (fun x => x = b) w w1 := hw1 ▸ setNode_turn (Turns.refl _ _) _ _ _ _ _ (fun _ => rfl)
  have hcs1 : Blk w1 b 88 ((((cs.setIfInBounds (i * 6 + 2) (.bool false)).setIfInBounds (i * 6 + 2 + 1) (.slice none 0 0)).setIfInBounds (i * 6 + 2 + 2) (.slice none 0 0)).setIfInBounds (i * 6 + 2 + 3) (.slice none 0 0)) := by
    rw [← hw1]
    exact (((hcs.set_ _ _).set_ _ _).set_ _ _).set_ _ _
  have s1 := t01.size
  have s2 := h4.size
  have hgl := h.blk.lt
  have hbl := hcs.lt
  obtain ⟨v0, hv0⟩ := h.view hp
  have hmw : ∀ x, mv = some x → x < w.heap.size := by
    rintro x rfl
    exact h.words.lt
  have T : Turns P w w2 := ((t01.mono (by rintro x _ rfl; exact h.pA _ rfl)).trans (h4.mono (F := fun b => b = g ∨ mv = some b) (G := fun x => P x) (by rintro x _ (rfl | e); exact h.pg; exact h.pmv _ e)))
  refine ⟨⟨some b, c, some mb, f', V.set i ⟨none, 0, 0, none, 0, 0, none, 0, 0⟩, ?_⟩, T⟩
  have hbn : ¬ (b = g ∨ mv = some b) := by
    rintro (e | e)
    · exact hbg e
    · exact hbm e
  have hset : ∀ j, j ≠ i → (L.set i ⟨false, p.turn, Ar.Nd.blank⟩)[j]? = L[j]? := fun j hj => List.getElem?_set_ne (fun e => hj e.symm)
  have hsetV : ∀ j, j ≠ i → (V.set i (⟨none, 0, 0, none, 0, 0, none, 0, 0⟩ : NdV))[j]? = V[j]? := fun j hj => List.getElem?_set_ne (fun e => hj e.symm)
  have hq : (L.set i ⟨false, p.turn, Ar.Nd.blank⟩)[i]? = some ⟨false, p.turn, Ar.Nd.blank⟩ := List.getElem?_set_self hi
  have hqV : (V.set i (⟨none, 0, 0, none, 0, 0, none, 0, 0⟩ : NdV))[i]? = some ⟨none, 0, 0, none, 0, 0, none, 0, 0⟩ := List.getElem?_set_self (by rw [h.len]; exact hi)
  have hfn : ((freeN (L.set i ⟨false, p.turn, Ar.Nd.blank⟩) : Nat) : Int) = (freeN L : Int) + 1 := by
    have e1 := freeN_set (L := L) (s := i) (p := ⟨false, p.turn, Ar.Nd.blank⟩) hi
    have e2 : L[i] = p := by
      rw [List.getElem?_eq_getElem hi] at hp
      exact Option.some.inj hp
    rw [e2, hu] at e1
    simp only [if_true, Bool.false_eq_true, if_false] at e1
    omega
  refine ⟨?_, ⟨_, h4.blk hcs1 hbn, by rw [List.length_set]; exact hcap, hcm, by simp [hcz], ?_⟩, h2, ?_, ?_, by rw [List.length_set, List.length_set, h.len], .inl h.pg, fun x e => .inl (h.pA x e), ?_, grow_low (by omega) h.low⟩
  · rw [List.length_set, hfn]
    exact h1
  · exact rows_node (q := ⟨false, p.turn, Ar.Nd.blank⟩) (v' := ⟨none, 0, 0, none, 0, 0, none, 0, 0⟩) (by omega) hcz (hrows i p v0 hp hv0 0 (by omega)) (hrows i p v0 hp hv0 1 (by omega)) hq hqV (fun j q v hj hpj hvj => hrows j q v (by rw [← hset j hj]; exact hpj) (by rw [← hsetV j hj]; exact hvj))
  · rw [Fr_free i _ hi rfl]
    exact h3
  · intro j q v hpj hvj
    by_cases hj : j = i
    · subst hj
      rw [hq] at hpj
      cases hpj
      rw [hqV] at hvj
      cases hvj
      exact NdIn.blank _ _
    · rw [hset j hj] at hpj
      rw [hsetV j hj] at hvj
      have e1 := (h.nd j q v hpj hvj).mono (G := fun x => (P x ∧ x ≠ g ∧ some b ≠ some x ∧ mv ≠ some x) ∧ x < w.heap.size) (fun x hx hh => ⟨hh, hx⟩)
      have e2 := (e1.turn t01 (by rintro x hx rfl; exact hx.1.2.2.1 rfl)).turn h4 (by rintro x hx (e | e); exact hx.1.2.1 e; exact hx.1.2.2.2 e)
      refine e2.mono ?_
      rintro x _ ⟨⟨hx1, hx2, hx3, hx4⟩, hx5⟩
      refine ⟨.inl hx1, hx2, hx3, ?_⟩
      intro e
      injection e with e
      subst e
      rcases h5 with e | ⟨_, e, _⟩
      · exact hx4 e
      · omega
  · intro x e
    injection e with e
    subst e
    rcases h5 with e | ⟨_, e, e2⟩
    · exact .inl (h.pmv _ e)
    · exact .inr ⟨by omega, e2⟩
end Go.Proofs.YtgpcpjjdneimfaaDoor
