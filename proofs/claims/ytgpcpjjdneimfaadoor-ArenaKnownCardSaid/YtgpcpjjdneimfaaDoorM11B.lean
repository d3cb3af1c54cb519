/- ArenaPlays: the reference's arena with another place. -/
import Derived.Test.YtgpcpjjdneimfaaDoorPlD
namespace Go.Proofs.YtgpcpjjdneimfaaDoor
open Go.ChangeShapes Go.WideShapes Go.ChangeAt Go.RowKit

theorem Tryd.info91 : (Tryd.prog.info? 91).map (fun i => (i.zero, i.size, i.bytes)) = some (some (.agg #[.bool false, .int .i64 0, .bool false, .slice none 0 0, .slice none 0 0, .slice none 0 0]), 6, 96) := by kernel_rfl
/-- The cells of the reference's place. -/
def rowP (p : Ar.Pl) (v : NdV) : List Value := [.bool p.used, .int .i64 (p.turn : Int), .bool p.nd.leaf, .slice v.A1 v.n1 v.c1, .slice v.A2 v.n2 v.c2, .slice v.A3 v.n3 v.c3]
def plL : List Ar.Pl → List NdV → List Value
  | p :: L, v :: V => rowP p v ++ plL L V
  | _, _ => []
theorem plL_len (L : List Ar.Pl) (V : List NdV) (h : V.length = L.length) : (plL L V).length = L.length * 6 := by
  induction L generalizing V with
  | nil => cases V <;> simp [plL]
  | cons p L ih =>
    cases V with
    | nil => simp at h
    | cons v V =>
      have := ih V (by simpa using h)
      simp only [plL, List.length_append, List.length_cons, this]
      simp [rowP]
      omega
theorem plL_at (L : List Ar.Pl) (V : List NdV) (i : Nat) (p : Ar.Pl) (v : NdV) (hp : L[i]? = some p) (hv : V[i]? = some v) (j : Nat) (hj : j < 6) : (plL L V)[i * 6 + j]? = (rowP p v)[j]? := by
  induction L generalizing V i with
  | nil => simp at hp
  | cons q L ih =>
    cases V with
    | nil => simp at hv
    | cons u V =>
      cases i with
      | zero =>
        simp at hp hv
        subst hp hv
        rw [Nat.zero_mul, Nat.zero_add]
        show (rowP q u ++ plL L V)[j]? = _
        rw [List.getElem?_append_left (by simp [rowP]; omega)]
      | succ i =>
        have := ih V i (by simpa using hp) (by simpa using hv)
        show (rowP q u ++ plL L V)[(i + 1) * 6 + j]? = _
        rw [List.getElem?_append_right (by simp [rowP]; omega)]
        rw [show (i + 1) * 6 + j - (rowP q u).length = i * 6 + j by simp [rowP]; omega]
        exact this
theorem plL_snoc (L : List Ar.Pl) (V : List NdV) (h : V.length = L.length) (p : Ar.Pl) (v : NdV) : plL (L ++ [p]) (V ++ [v]) = plL L V ++ rowP p v := by
  induction L generalizing V with
  | nil =>
    cases V with
    | nil => simp [plL]
    | cons v V => simp at h
  | cons q L ih =>
    cases V with
    | nil => simp at h
    | cons u V =>
      simp only [List.cons_append, plL, ih V (by simpa using h), List.append_assoc]
theorem plL_one (L : List Ar.Pl) (V : List NdV) : ∀ u ∈ plL L V, u.oneCell' = true := by
  induction L generalizing V with
  | nil => cases V <;> simp [plL]
  | cons q L ih =>
    cases V with
    | nil => simp [plL]
    | cons v V =>
      intro u hu
      simp only [plL, List.mem_append] at hu
      rcases hu with hu | hu
      · simp [rowP] at hu
        rcases hu with rfl | rfl | rfl | rfl | rfl | rfl <;> rfl
      · exact ih V u hu
/-- A slice at A, of n places in blocks of F, is the reference's arena L. -/
def PlIn (w : World) (F : Nat → Prop) (A : Option Addr) (n : Nat) (L : List Ar.Pl) : Prop :=
  ∃ V : List NdV, V.length = L.length ∧ Cells w F A n 6 (plL L V) ∧ ∀ (i : Nat) (p : Ar.Pl) (v : NdV), L[i]? = some p → V[i]? = some v → NdIn w F v p.nd
section
variable {w w' : World} {F G : Nat → Prop} {A : Option Addr} {n : Nat} {L : List Ar.Pl}
theorem PlIn.len (h : PlIn w F A n L) : L.length = n := by
  obtain ⟨V, h1, h2, _⟩ := h
  have := h2.1
  rw [plL_len L V h1] at this
  omega
theorem PlIn.mono (h : PlIn w F A n L) (hF : ∀ b, b < w.heap.size → F b → G b) : PlIn w G A n L := by
  obtain ⟨V, h1, h2, h3⟩ := h
  exact ⟨V, h1, h2.mono hF, fun i p v hp hv => (h3 i p v hp hv).mono hF⟩
theorem PlIn.turn (h : PlIn w F A n L) (ht : Turns G w w') (hd : ∀ b, F b → ¬ G b) : PlIn w' F A n L := by
  obtain ⟨V, h1, h2, h3⟩ := h
  exact ⟨V, h1, h2.turn ht hd, fun i p v hp hv => (h3 i p v hp hv).turn ht hd⟩
theorem PlIn.below (h : PlIn w F A n L) (hb : Below w.heap.size w w') : PlIn w' F A n L := by
  obtain ⟨V, h1, h2, h3⟩ := h
  exact ⟨V, h1, h2.below hb, fun i p v hp hv => (h3 i p v hp hv).below hb⟩
theorem PlIn.nil (w : World) (F : Nat → Prop) : PlIn w F none 0 [] := ⟨[], rfl, Cells.nil _ _ _ _, fun i p v hp => by simp at hp⟩
/-- A place's cells, and its node. -/
theorem PlIn.at_ (h : PlIn w F A n L) {i : Nat} {p : Ar.Pl} (hp : L[i]? = some p) : ∃ b off v, A = some ⟨b, off, none⟩ ∧ NdIn w F v p.nd ∧ ∀ j, j < 6 → w.cell? ⟨b, off + i * 6 + j, none⟩ = (rowP p v)[j]? := by
  obtain ⟨V, h1, h2, h3⟩ := id h
  have hi := (List.getElem?_eq_some_iff.1 hp).1
  have hv : V[i]? = some (V[i]'(by omega)) := List.getElem?_eq_getElem _
  obtain ⟨b, off, e, _, _, hc⟩ := h2.at_ (i := i) (by rw [← h.len]; exact hi)
  exact ⟨b, off, _, e, h3 i p _ hp hv, fun j hj => (hc j hj).trans (plL_at L V i p _ hp hv j hj)⟩
end
end Go.Proofs.YtgpcpjjdneimfaaDoor

namespace Go.Proofs.YtgpcpjjdneimfaaDoor
open Go.ChangeShapes Go.WideShapes Go.ChangeAt Go.RowKit

/-- An arena of the reference, as a call hands it back. -/
def PlNew (w : World) (F : Nat → Prop) (L : List Ar.Pl) (e : Ending) (w' : World) : Prop := ∃ A n c, e = .returned (.agg #[.slice A n c]) ∧ PlIn w' (fun b => F b ∨ w.heap.size ≤ b) A n L ∧ Below w.heap.size w w'
def setPl (w : World) (r o : Nat) (u0 u1 u2 u3 u4 u5 : Value) : World := (((((w.setCell ⟨r, o, none⟩ u0).setCell ⟨r, o + 1, none⟩ u1).setCell ⟨r, o + 2, none⟩ u2).setCell ⟨r, o + 3, none⟩ u3).setCell ⟨r, o + 4, none⟩ u4).setCell ⟨r, o + 5, none⟩ u5
theorem setPl_turn {F : Nat → Prop} {w w' : World} {r : Nat} (h : Turns F w w') (o : Nat) (u0 u1 u2 u3 u4 u5 : Value) (hF : r < w.heap.size → F r) : Turns F w (setPl w' r o u0 u1 u2 u3 u4 u5) :=
  (((((h.setCell _ _ hF).setCell _ _ hF).setCell _ _ hF).setCell _ _ hF).setCell _ _ hF).setCell _ _ hF
theorem Blk.pl {w : World} {r : Nat} {T : TypeId} {cs : Array Value} (h : Blk w r T cs) (o : Nat) (u0 u1 u2 u3 u4 u5 : Value) : Blk (setPl w r o u0 u1 u2 u3 u4 u5) r T ((((((cs.setIfInBounds o u0).setIfInBounds (o + 1) u1).setIfInBounds (o + 2) u2).setIfInBounds (o + 3) u3).setIfInBounds (o + 4) u4).setIfInBounds (o + 5) u5) :=
  (((((h.set_ _ _).set_ _ _).set_ _ _).set_ _ _).set_ _ _).set_ _ _
theorem plL_set (L : List Ar.Pl) (V : List NdV) (i : Nat) (p : Ar.Pl) (v : NdV) (h : V.length = L.length) (hi : i < L.length) : plL (L.set i p) (V.set i v) = ((((((plL L V).set (i * 6) (.bool p.used)).set (i * 6 + 1) (.int .i64 (p.turn : Int))).set (i * 6 + 2) (.bool p.nd.leaf)).set (i * 6 + 3) (.slice v.A1 v.n1 v.c1)).set (i * 6 + 4) (.slice v.A2 v.n2 v.c2)).set (i * 6 + 5) (.slice v.A3 v.n3 v.c3) := by
  induction L generalizing V i with
  | nil => exact absurd hi (by simp)
  | cons q L ih =>
    cases V with
    | nil => simp at h
    | cons u V =>
      cases i with
      | zero => simp [plL, rowP]
      | succ i =>
        have := ih V i (by simpa using h) (by simpa using hi)
        simp only [List.set_cons_succ, plL, this]
        have hl : (rowP q u).length = 6 := rfl
        have e : ∀ k (l : List Value) (x : Value), (rowP q u ++ l).set ((i + 1) * 6 + k) x = rowP q u ++ l.set (i * 6 + k) x := fun k l x => by
          rw [List.set_append_right _ _ (by rw [hl]; omega), hl]
          congr 2
          omega
        have e0 : ∀ (l : List Value) (x : Value), (rowP q u ++ l).set ((i + 1) * 6) x = rowP q u ++ l.set (i * 6) x := fun l x => e 0 l x
        rw [e0, e, e, e, e, e]
/-- Four blocks of the call's own. -/
theorem four_made (w : World) (A : Option Addr) (n c : Nat) (u0 u1 u2 u3 u4 u5 : Value) : ∃ W a r, (((w.alloc (.cells #[.slice A n c] 29)).alloc (.cells #[u0, u1, u2, u3, u4, u5] 91)).alloc (.cells #[.slice none 0 0] 29)).alloc (.cells #[.slice none 0 0] 29) = W ∧ w.heap.size = a ∧ w.heap.size + 1 + 1 = r ∧ Below w.heap.size w W ∧ Blk W a 29 #[.slice A n c] ∧ Blk W (a + 1) 91 #[u0, u1, u2, u3, u4, u5] ∧ Blk W r 29 #[.slice none 0 0] ∧ Blk W (r + 1) 29 #[.slice none 0 0] ∧ W.heap.size = w.heap.size + 4 := by
  have H1 := (Held.start w).new #[.slice A n c] 29
  have H2 := H1.new #[u0, u1, u2, u3, u4, u5] 91
  have H3 := H2.new #[.slice none 0 0] 29
  have H4 := H3.new #[.slice none 0 0] 29
  simp only [show ∀ (X : World) (o : Obj), (X.alloc o).heap.size = X.heap.size + 1 from fun X o => by simp] at H4
  refine ⟨_, _, _, rfl, rfl, rfl, H4.1, H4.at_ (by simp), H4.at_ (by simp), H4.at_ (by simp), H4.at_ (by simp), by simp⟩
theorem six_cell' (w : World) (t : TypeId) (us : List Value) (b : Nat) (hb : w.heap.size = b) : ∀ (j : Nat) (v : Value), us[j]? = some v → (w.alloc (.cells us.toArray t)).cell? ((⟨b, 0, none⟩ : Addr).add j) = some v := fun j v h => by
  subst hb
  rw [add_at, Nat.zero_add, (Blk.new w t us.toArray).cell]
  simpa using h
theorem nd_carry {w w' : World} {F : Nat → Prop} {v : NdV} {d : Ar.Nd} (h : NdIn w F v d) (hT : Turns (fun x => w.heap.size ≤ x) w w') (K : Nat) : NdIn w' (fun b => (F b ∧ b < w.heap.size) ∨ K ≤ b) v d :=
  ((h.mono (G := fun b => F b ∧ b < w.heap.size) (fun b hb hf => ⟨hf, hb⟩)).turn hT (fun b hb hx => by omega)).mono (fun b _ hb => .inl hb)
/-- A place more. -/
theorem pl_snoc {w w' : World} {F : Nat → Prop} {A : Option Addr} {K i : Nat} {L : List Ar.Pl} {V : List NdV} {p : Ar.Pl} {v : NdV} (hV : V.length = L.length) (hN : ∀ (i : Nat) (p : Ar.Pl) (v : NdV), L[i]? = some p → V[i]? = some v → NdIn w F v p.nd) (hv : NdIn w F v p.nd) (hT : Turns (fun x => w.heap.size ≤ x) w w') (hi : i = L.length) (hC : Cells w' (fun b => K ≤ b) A (i + 1) 6 (plL L V ++ rowP p v)) : PlIn w' (fun b => (F b ∧ b < w.heap.size) ∨ K ≤ b) A (i + 1) (Ar.put L i p) := by
  unfold Ar.put
  rw [if_pos hi]
  refine ⟨V ++ [v], by simp [hV], ?_, fun j q u hq hu => ?_⟩
  · rw [plL_snoc L V hV]
    exact hC.mono fun b _ hb => .inr hb
  · rcases Nat.lt_trichotomy j L.length with h1 | h1 | h1
    · rw [List.getElem?_append_left h1] at hq
      rw [List.getElem?_append_left (by omega)] at hu
      exact nd_carry (hN j q u hq hu) hT K
    · subst h1
      rw [List.getElem?_append_right (Nat.le_refl _), Nat.sub_self] at hq
      rw [List.getElem?_append_right (by omega), hV, Nat.sub_self] at hu
      cases hq
      cases hu
      exact nd_carry hv hT K
    · rw [List.getElem?_eq_none (by simp; omega)] at hq
      cases hq
/-- Another place. -/
theorem pl_set {w w' : World} {F : Nat → Prop} {A : Option Addr} {K i n : Nat} {L : List Ar.Pl} {V : List NdV} {p : Ar.Pl} {v : NdV} (hV : V.length = L.length) (hN : ∀ (i : Nat) (p : Ar.Pl) (v : NdV), L[i]? = some p → V[i]? = some v → NdIn w F v p.nd) (hv : NdIn w F v p.nd) (hT : Turns (fun x => w.heap.size ≤ x) w w') (hi : i < L.length) (hC : Cells w' (fun b => K ≤ b) A n 6 (plL (L.set i p) (V.set i v))) : PlIn w' (fun b => (F b ∧ b < w.heap.size) ∨ K ≤ b) A n (Ar.put L i p) := by
  unfold Ar.put
  rw [if_neg (by omega)]
  refine ⟨V.set i v, by simp [hV], hC.mono fun b _ hb => .inr hb, fun j q u hq hu => ?_⟩
  rcases Nat.decEq i j with h1 | h1
  · rw [List.getElem?_set_ne h1] at hq hu
    exact nd_carry (hN j q u hq hu) hT K
  · subst h1
    rw [List.getElem?_set_self (by omega)] at hq hu
    cases hq
    cases hu
    exact nd_carry hv hT K
theorem own_block {w : World} {base n c i : Nat} {E : TypeId} {B : Option Addr} {xs : List Value} (h : w.ownsRow base E 6 (.slice B n c) n xs) (hi : i < n) : ∃ g cur, B = some ⟨g, 0, none⟩ ∧ base ≤ g ∧ Blk w g E cur ∧ cur.toList.take (n * 6) = xs ∧ ∀ q, q < 6 → ∃ u, w.cell? ⟨g, i * 6 + q, none⟩ = some u := by
  have hlen := h.1
  rcases h.2 with ⟨hv, hx⟩ | ⟨g, cap, cur, hv, hb, hh, hcs⟩
  · injection hv with h1 h2 h3
    omega
  · injection hv with h1 h2 h3
    refine ⟨g, cur, h1, hb, hh, hcs.2.2.2, fun q hq => ?_⟩
    rw [Blk.cell hh]
    have h4 : n * 6 ≤ cur.size := by
      have := congrArg List.length hcs.2.2.2
      rw [List.length_take, hlen] at this
      have h5 : cur.toList.length = cur.size := by simp
      omega
    exact ⟨_, Array.getElem?_eq_getElem (by omega)⟩
theorem cells_set {w : World} {K g n i : Nat} {E : TypeId} {cur : Array Value} {xs : List Value} {u0 u1 u2 u3 u4 u5 : Value} (h : Blk w g E ((((((cur.setIfInBounds (i * 6) u0).setIfInBounds (i * 6 + 1) u1).setIfInBounds (i * 6 + 2) u2).setIfInBounds (i * 6 + 3) u3).setIfInBounds (i * 6 + 4) u4).setIfInBounds (i * 6 + 5) u5)) (hK : K ≤ g) (hx : cur.toList.take (n * 6) = xs) (hl : xs.length = n * 6) : Cells w (fun b => K ≤ b) (some ⟨g, 0, none⟩) n 6 ((((((xs.set (i * 6) u0).set (i * 6 + 1) u1).set (i * 6 + 2) u2).set (i * 6 + 3) u3).set (i * 6 + 4) u4).set (i * 6 + 5) u5) := by
  refine Cells.of_blk h hK (by simpa using hl) ?_
  rw [← hx]
  simp only [Array.toList_setIfInBounds, List.take_set]
set_option maxRecDepth 100000 in
theorem with_any (w : World) (F : Nat → Prop) (A : Option Addr) (n c : Nat) (L : List Ar.Pl) (h : PlIn w F A n L) (i : Nat) (hi : i ≤ n) (p : Ar.Pl) (v : NdV) (hv : NdIn w F v p.nd) (hn : n ≤ 1000000) :
    Calls Tryd.prog 44 #[.agg #[.slice A n c], .int .i64 (i : Int), .agg (rowP p v).toArray] w (PlNew w F (Ar.put L i p)) := by
  obtain ⟨i0, hi0, hz0, hz1, hz2⟩ := info_parts Tryd.info91
  obtain ⟨A1, n1, c1, A2, n2, c2, A3, n3, c3⟩ := v
  obtain ⟨W, a, r, hW, ha, hr, hB, hbox, hpl, hres, hout, hWs⟩ := four_made w A n c (.bool p.used) (.int .i64 (p.turn : Int)) (.bool p.nd.leaf) (.slice A1 n1 c1) (.slice A2 n2 c2) (.slice A3 n3 c3)
  have hln := h.len
  obtain ⟨V, hV, hC, hN⟩ := h
  obtain ⟨B1, k1, w1, hrun1, hown1, hb1⟩ := append_copy (c := c) 27 91 i0 _ 96 Tryd.underlying27 hi0 hz0 hz1 hz2 rfl (by decide) 27 (hC.below hB) (plL_one L V) hn (by omega)
  have hbox1 := hbox.below hb1 hbox.lt
  have hpl1 := hpl.below hb1 hpl.lt
  have hres1 := hres.below hb1 hres.lt
  have hout1 := hout.below hb1 hout.lt
  have s1 := hb1.size
  obtain ⟨w2, hw2⟩ : ∃ w2, w1.setCell ⟨r + 1, 0, none⟩ (.slice B1 n k1) = w2 := ⟨_, rfl⟩
  have t2 : Turns (fun x => x = r + 1) w1 w2 := hw2 ▸ (Turns.refl (fun x => x = r + 1) w1).setCell (g := r + 1) _ _ (fun _ => rfl)
  have hpl2 := t2.blk hpl1 (by omega)
  have hres2 := t2.blk hres1 (by omega)
  have hout2 : Blk w2 (r + 1) 29 #[.slice B1 n k1] := hw2 ▸ hout1.set_ 0 _
  have s2 := t2.size
  have hown2 := own_turn hown1 t2 (fun g hg e => by have := own_far hown1 (Nat.le_refl _) g hg; omega)
  have T02 : Turns (fun x => w.heap.size ≤ x) w w2 := ((Turns.of_below hB).trans (Turns.of_below hb1)).trans (t2.mono (by rintro x _ rfl; omega))
  have T2 : Hid (w1.heap.size ≤ w2.heap.size) := Lib.hid s2
  have R1 : Hid ((Builtin.append_ #[27, 27] 27 #[.slice none 0 0, .slice A n c]).run Tryd.prog W = .ok (.slice B1 n k1) w1) := Lib.hid hrun1
  have H := Lib.hid (And.intro hW (And.intro ha (And.intro hr (And.intro hWs (And.intro s1 (And.intro hw2 (And.intro T02 (And.intro hown2 (And.intro hC (And.intro hN (And.intro hV (And.intro hln hv))))))))))))
  have HA := Lib.hid (And.intro hbox (And.intro hout (And.intro hout1 (And.intro hpl2 (And.intro hres2 hout2)))))
  have HI := Lib.hid (And.intro hi0 (And.intro hz0 (And.intro hz1 hz2)))
  have hin : Hid (i ≤ n) := Lib.hid hi
  clear hW ha hr hWs s1 hw2 T02 hown2 hC hN hV hln hv hbox hpl hres hout hbox1 hpl1 hres1 hout1 hpl2 hres2 hout2 hown1 hrun1 hb1 hB t2 s2 hi0 hz0 hz1 hz2 hi
  show Calls Tryd.prog _ #[.agg #[.slice A n c], .int .i64 (i : Int), .agg #[.bool p.used, .int .i64 (p.turn : Int), .bool p.nd.leaf, .slice A1 n1 c1, .slice A2 n2 c2, .slice A3 n3 c3]] w _
  go_enter Tryd.func44, Tryd.ntmps44
  go_upto_region 2 with fail
  rw [H.out.1, H.out.2.2.1, H.out.2.1]
  have a0 := HA.out.1.cell 0
  have b0 := HA.out.2.1.cell 0
  have c0 := HA.out.2.2.1.cell 0
  have f0 := HA.out.2.2.1.frozen 0
  simp only [List.getElem?_toArray, List.getElem?_cons_zero] at a0 b0 c0
  go_upto_region 3 with (at_builtin; refine wpList_append_eq rfl _ _ 27 rfl rfl rfl R1.out ?_)
  rw [H.out.2.2.2.2.2.1]
  clear a0 b0 c0 f0
  have e0 := HA.out.2.2.2.1.cell 0
  have e1 := HA.out.2.2.2.1.cell 1
  have e2 := HA.out.2.2.2.1.cell 2
  have e3 := HA.out.2.2.2.1.cell 3
  have e4 := HA.out.2.2.2.1.cell 4
  have e5 := HA.out.2.2.2.1.cell 5
  have y0 := HA.out.2.2.2.2.1.cell 0
  have z0 := HA.out.2.2.2.2.2.cell 0
  have f0 := HA.out.2.2.2.2.2.frozen 0
  have f1 := HA.out.2.2.2.2.1.frozen 0
  simp only [List.getElem?_toArray, List.getElem?_cons_zero, List.getElem?_cons_succ] at e0 e1 e2 e3 e4 e5 y0 z0
  by_cases hie : i = n
  · have hd : ((i : Int) == (n : Int)) = true := by rw [hie]; simp
    have HO := Lib.hid (And.intro HA.out.2.2.2.2.2 (And.intro HA.out.2.2.2.2.1 H.out.2.2.2.2.2.2.2.1))
    have HT : Hid (W.heap.size ≤ w2.heap.size ∧ r + 1 < W.heap.size) := Lib.hid ⟨by have := H.out.2.2.2.2.1; have := T2.out; omega, HA.out.2.1.lt⟩
    have KO : Hid (∀ (o : Obj) (w3 : World), (w2.alloc o).grownBy w3 (Value.slice B1 n k1).ownBlock → Turns (fun x => W.heap.size ≤ x) w2 w3 ∧ Blk w3 (r + 1) 29 #[.slice B1 n k1] ∧ Blk w3 r 29 #[.slice none 0 0]) := Lib.hid fun o w3 hg => by
      have h1 : Turns (fun x => W.heap.size ≤ x) w2 w3 := ((Turns.refl _ w2).alloc o).trans ((Turns.of_grown hg).mono fun g _ hg' => (HO.out.2.2.lt g hg').1)
      exact ⟨h1, h1.blk HO.out.1 (by have := HT.out; omega), h1.blk HO.out.2.1 (by have := HT.out; omega)⟩
    go_upto_region 6 with (at_builtin; refine wpList_append_own _ rfl _ _ 27 rfl W.heap.size 91 i0 _ 6 96 Tryd.underlying27 HI.out.1 HI.out.2.1 HI.out.2.2.1 HI.out.2.2.2 rfl (by decide) _ n _ rfl (HO.out.2.2.alloc _) ⟨w2.heap.size, 0, none⟩ 1 1 [.bool p.used, .int .i64 (p.turn : Int), .bool p.nd.leaf, .slice A1 n1 c1, .slice A2 n2 c2, .slice A3 n3 c3] rfl rfl (six_cell' _ _ _ _ rfl) (by simp [Value.oneCell']) (by unfold maxLen; omega) (by omega) (by have := HT.out; simp; omega) ?_; intro v' w3 hown3 hgr3 _; obtain ⟨B4, k4, rfl⟩ := own_slice hown3; clear e0 e1 e2 e3 e4 e5 y0 z0 f0 f1; have HG := Lib.hid (And.intro hown3 hgr3); clear hown3 hgr3; have z0 := (KO.out _ _ HG.out.2).2.1.cell 0; have f0 := (KO.out _ _ HG.out.2).2.1.frozen 0; simp only [List.getElem?_toArray, List.getElem?_cons_zero] at z0)
    have KT := KO.out _ _ HG.out.2
    have T : Turns (fun x => w.heap.size ≤ x) w w3 := H.out.2.2.2.2.2.2.1.trans (KT.1.mono (fun x _ hx => by have := H.out.2.2.2.1; omega))
    have hP : PlIn w3 (fun b => (F b ∧ b < w.heap.size) ∨ W.heap.size ≤ b) B4 (n + 1) (Ar.put L i p) := by
      rw [← hie]
      exact pl_snoc (K := W.heap.size) H.out.2.2.2.2.2.2.2.2.2.2.1 H.out.2.2.2.2.2.2.2.2.2.1 H.out.2.2.2.2.2.2.2.2.2.2.2.2 T (hie.trans H.out.2.2.2.2.2.2.2.2.2.2.2.1.symm) (by rw [hie]; exact Cells.of_own HG.out.1)
    obtain ⟨w4, hw4⟩ : ∃ w4, w3.setCell ⟨r + 1, 0, none⟩ (.slice B4 (n + 1) k4) = w4 := ⟨_, rfl⟩
    have t4 : Turns (fun x => x = r + 1) w3 w4 := hw4 ▸ (Turns.refl (fun x => x = r + 1) w3).setCell (g := r + 1) _ _ (fun _ => rfl)
    have hout4 : Blk w4 (r + 1) 29 #[.slice B4 (n + 1) k4] := hw4 ▸ KT.2.1.set_ 0 _
    have hres4 := t4.blk KT.2.2 (by omega)
    obtain ⟨w5, hw5⟩ : ∃ w5, w4.setCell ⟨r, 0, none⟩ (.slice B4 (n + 1) k4) = w5 := ⟨_, rfl⟩
    have t5 : Turns (fun x => x = r) w4 w5 := hw5 ▸ (Turns.refl (fun x => x = r) w4).setCell (g := r) _ _ (fun _ => rfl)
    have hres5 : Blk w5 r 29 #[.slice B4 (n + 1) k4] := hw5 ▸ hres4.set_ 0 _
    have hr2 : w.heap.size + 1 + 1 = r := H.out.2.2.1
    have hW4 : W.heap.size = w.heap.size + 4 := H.out.2.2.2.1
    have hP5 : PlIn w5 (fun b => F b ∨ w.heap.size ≤ b) B4 (n + 1) (Ar.put L i p) := ((hP.turn t4 (fun x hx e => by omega)).turn t5 (fun x hx e => by omega)).mono (fun x _ hx => hx.elim (fun h => .inl h.1) (fun h => .inr (by omega)))
    have hB5 : Below w.heap.size w w5 := (((T.trans (t4.mono (by rintro x _ rfl; omega))).trans (t5.mono (by rintro x _ rfl; omega)))).below (Nat.le_refl _) (fun x hx => hx)
    rw [hw4]
    have z0 := hout4.cell 0
    have y0 := hres4.cell 0
    have f0 := hres4.frozen 0
    have x0 := hres5.cell 0
    simp only [List.getElem?_toArray, List.getElem?_cons_zero] at z0 y0 x0
    have HF := Lib.hid (And.intro hP5 (And.intro hB5 hw5))
    clear hP5 hB5 hw5 hP T t4 t5 hres5 hres4 hout4 KT hw4
    go_wp2_with fail
    change bodyPost _ _ _ _ _ (w4.setCell ⟨r, 0, none⟩ (.slice B4 (n + 1) k4))
    rw [HF.out.2.2]
    refine bodyPost_ret (v := .agg #[.slice B4 (n + 1) k4]) ?_ rfl ⟨B4, (n + 1), k4, rfl, HF.out.1, HF.out.2.1⟩
    simp [results, Tryd.results44, go_sem, x0]
  · have hd : ((i : Int) == (n : Int)) = false := by simp; omega
    have i1 : (0 : Int) ≤ (i : Int) := by omega
    have i3 : i < n := by have := hin.out; omega
    have i2 : (i : Int) < (n : Int) := by omega
    obtain ⟨g, cur, rfl, hgW, hcur, hxs, hex⟩ := own_block H.out.2.2.2.2.2.2.2.1 i3
    obtain ⟨v0, x0⟩ := hex 0 (by decide)
    obtain ⟨v1, x1⟩ := hex 1 (by decide)
    obtain ⟨v2, x2⟩ := hex 2 (by decide)
    obtain ⟨v3, x3⟩ := hex 3 (by decide)
    obtain ⟨v4, x4⟩ := hex 4 (by decide)
    obtain ⟨v5, x5⟩ := hex 5 (by decide)
    rw [Nat.add_zero] at x0
    have q0 := hcur.frozen (i * 6)
    have q1 := hcur.frozen (i * 6 + 1)
    have q2 := hcur.frozen (i * 6 + 2)
    have q3 := hcur.frozen (i * 6 + 3)
    have q4 := hcur.frozen (i * 6 + 4)
    have q5 := hcur.frozen (i * 6 + 5)
    have HG := Lib.hid (And.intro hgW (And.intro hcur hxs))
    clear hgW hcur hxs hex
    go_upto_region 6 with fail
    obtain ⟨w4, hw4⟩ : ∃ w4, setPl w2 g (i * 6) (.bool p.used) (.int .i64 (p.turn : Int)) (.bool p.nd.leaf) (.slice A1 n1 c1) (.slice A2 n2 c2) (.slice A3 n3 c3) = w4 := ⟨_, rfl⟩
    have t4 : Turns (fun x => x = g) w2 w4 := hw4 ▸ setPl_turn (Turns.refl (fun x => x = g) w2) _ _ _ _ _ _ _ (fun _ => rfl)
    have hr2 : w.heap.size + 1 + 1 = r := H.out.2.2.1
    have hW4 : W.heap.size = w.heap.size + 4 := H.out.2.2.2.1
    have hgW := HG.out.1
    have T : Turns (fun x => w.heap.size ≤ x) w w4 := H.out.2.2.2.2.2.2.1.trans (t4.mono (by rintro x _ rfl; omega))
    have hP : PlIn w4 (fun b => (F b ∧ b < w.heap.size) ∨ W.heap.size ≤ b) (some ⟨g, 0, none⟩) n (Ar.put L i p) := by
      refine pl_set (K := W.heap.size) (v := ⟨A1, n1, c1, A2, n2, c2, A3, n3, c3⟩) H.out.2.2.2.2.2.2.2.2.2.2.1 H.out.2.2.2.2.2.2.2.2.2.1 H.out.2.2.2.2.2.2.2.2.2.2.2.2 T (by rw [H.out.2.2.2.2.2.2.2.2.2.2.2.1]; exact i3) ?_
      rw [plL_set L V i p _ H.out.2.2.2.2.2.2.2.2.2.2.1 (by rw [H.out.2.2.2.2.2.2.2.2.2.2.2.1]; exact i3)]
      exact cells_set (hw4 ▸ HG.out.2.1.pl (i * 6) _ _ _ _ _ _) hgW HG.out.2.2 H.out.2.2.2.2.2.2.2.1.1
    have hout4 := t4.blk HA.out.2.2.2.2.2 (by omega)
    have hres4 := t4.blk HA.out.2.2.2.2.1 (by omega)
    obtain ⟨w5, hw5⟩ : ∃ w5, w4.setCell ⟨r, 0, none⟩ (.slice (some ⟨g, 0, none⟩) n k1) = w5 := ⟨_, rfl⟩
    have t5 : Turns (fun x => x = r) w4 w5 := hw5 ▸ (Turns.refl (fun x => x = r) w4).setCell (g := r) _ _ (fun _ => rfl)
    have hres5 : Blk w5 r 29 #[.slice (some ⟨g, 0, none⟩) n k1] := hw5 ▸ hres4.set_ 0 _
    have hP5 : PlIn w5 (fun b => F b ∨ w.heap.size ≤ b) (some ⟨g, 0, none⟩) n (Ar.put L i p) := (hP.turn t5 (fun x hx e => by omega)).mono (fun x _ hx => hx.elim (fun h => .inl h.1) (fun h => .inr (by omega)))
    have hB5 : Below w.heap.size w w5 := (T.trans (t5.mono (by rintro x _ rfl; omega))).below (Nat.le_refl _) (fun x hx => hx)
    change Code.wp _ _ _ _ (setPl w2 g (i * 6) (.bool p.used) (.int .i64 (p.turn : Int)) (.bool p.nd.leaf) (.slice A1 n1 c1) (.slice A2 n2 c2) (.slice A3 n3 c3))
    rw [hw4]
    clear e0 e1 e2 e3 e4 e5 y0 z0 f0 f1 x0 x1 x2 x3 x4 x5 q0 q1 q2 q3 q4 q5
    have z0 := hout4.cell 0
    have y0 := hres4.cell 0
    have f0 := hres4.frozen 0
    have x0 := hres5.cell 0
    simp only [List.getElem?_toArray, List.getElem?_cons_zero] at z0 y0 x0
    have HF := Lib.hid (And.intro hP5 (And.intro hB5 hw5))
    clear hP5 hB5 hw5 hP T t4 t5 hres5 hres4 hout4 hw4
    go_wp2_with fail
    change bodyPost _ _ _ _ _ (w4.setCell ⟨r, 0, none⟩ (.slice (some ⟨g, 0, none⟩) n k1))
    rw [HF.out.2.2]
    refine bodyPost_ret (v := .agg #[.slice (some ⟨g, 0, none⟩) n k1]) ?_ rfl ⟨some ⟨g, 0, none⟩, n, k1, rfl, HF.out.1, HF.out.2.1⟩
    simp [results, Tryd.results44, go_sem, x0]
end Go.Proofs.YtgpcpjjdneimfaaDoor
