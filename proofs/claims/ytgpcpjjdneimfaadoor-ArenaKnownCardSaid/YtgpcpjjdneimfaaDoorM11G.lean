/- ArenaKnown: rows of numbers; the rows as the laws want them. -/
import Derived.Test.YtgpcpjjdneimfaaDoorTeC
import Derived.Test.YtgpcpjjdneimfaaDoorM11H
import Derived.Test.YtgpcpjjdneimfaaDoorLaw11N
import Derived.Deep.RegionHeld3
import Derived.Deep.DeepCutAuto
import Derived.Maps.AppendAt
import Derived.Deep.AppendLies
namespace Go.Proofs.YtgpcpjjdneimfaaDoor
open Go.ChangeShapes Go.WideShapes Go.ChangeAt Go.RowKit

theorem tmA (n m : Nat) (z : Int) (hz : z = m) (hm : 0 < m) : ∃ r : Nat, (n : Int).tmod z = r ∧ (n : Int) % z = r ∧ r < m := by
  subst hz
  exact ⟨n % m, by rw [Int.tmod_eq_emod_of_nonneg (by omega)]; rfl, rfl, Nat.mod_lt _ hm⟩
theorem tdA (n m : Nat) (z : Int) (hz : z = m) : ∃ r : Nat, (n : Int).tdiv z = r ∧ (n : Int) / z = r ∧ r * m ≤ n := by
  subst hz
  exact ⟨n / m, by rw [Int.tdiv_eq_ediv_of_nonneg (by omega)]; rfl, rfl, Nat.div_mul_le_self _ _⟩
/-- Rows that grow: of calls, and of numbers. -/
structure Kn (w0 wr : World) (lv tv : Value) (i j : Nat) (q : List Ac) (u : List Int) : Prop where
  bel : Below w0.heap.size w0 wr
  acts : wr.ownsRow w0.heap.size 38 6 lv i (q.flatMap acRow)
  len : q.length = i
  raw : ∀ (j : Nat) (a : Ac), q[j]? = some a → AcRaw wr (fun b => lv.ownBlock ≠ some b ∧ tv.ownBlock ≠ some b) a
  turns : wr.ownsRow w0.heap.size 3 1 tv j (intL u)
  ulen : u.length = j
theorem Kn.below {w0 wr w' : World} {lv tv : Value} {i j : Nat} {q : List Ac} {u : List Int} (h : Kn w0 wr lv tv i j q u) (hb : Below wr.heap.size wr w') : Kn w0 w' lv tv i j q u :=
  ⟨h.bel.trans (hb.mono h.bel.size), own_below h.acts hb, h.len, fun j a hj => (h.raw j a hj).below hb, own_below h.turns hb, h.ulen⟩
theorem step_append_here11 {P : Program} {w : World} {ops : Array Oper} {o : Oper} {a : Act} {K : Act → World → Prop} {Q : Exit → Act → World → Prop} {E : Prop} (hw : Region.wanted o (yielded ops a.tmps) = true) (s x : Operand) (t : TypeId)
    (ho : o.op = .call { callee := .builtin .append, args := #[s, x], argTypes := #[t, t] })
    (base : Nat) (e : TypeId) (i : TypeInfo) (z : Value) (size bytes : Nat) (ht : P.underlying t = some (.slice e)) (hi : P.info? e = some i) (hz : i.zero = some z)
    (hsize : i.size = size) (hby : i.bytes = bytes) (hzs : z.cells.size = size) (hsz : 0 < size)
    (v : Value) (n : Nat) (xs : List Value) (hs : a.eval s = v) (hown : w.ownsRow base e size v n xs)
    (ad : Addr) (m c : Nat) (news : List Value) (hx : a.eval x = .slice (some ad) m c) (hl : news.length = m * size) (hnews : ∀ j u, news[j]? = some u → w.cell? (ad.add j) = some u) (h1 : ∀ u ∈ news, u.oneCell' = true)
    (hm : 0 < m) (h63 : n + m ≤ maxLen) (hbytes : (n + m) * bytes ≤ 140737488355328) (hbase : base ≤ w.heap.size) (H : Nat) (hH : w.heap.size = H)
    (h : ∀ g cap w', w'.ownsRow base e size (.slice (some ⟨g, 0, none⟩) (n + m) cap) (n + m) (xs ++ news) → w.grownBy w' v.ownBlock → (v.ownBlock = some g ∨ g = H) → g < w'.heap.size → K (a.put o.dst (.slice (some ⟨g, 0, none⟩) (n + m) cap)) w') :
    if Region.wanted o (yielded ops a.tmps) = true then Oper.wp P o a w K Q else E := by
  rw [if_pos hw]
  exact wp_append_lies w s x t ho base e i z size bytes ht hi hz hsize hby hzs hsz v n xs hs hown ad m c news hx hl hnews h1 hm h63 hbytes hbase H hH h
theorem Tryd.info38 : (Tryd.prog.info? 38).map (fun i => (i.zero, i.size, i.bytes)) = some (some (.agg #[.int .i64 0, .bool false, .slice none 0 0, .slice none 0 0, .slice none 0 0, .slice none 0 0]), 6, 112) := by kernel_rfl
/-- The world behind five things made in a region that draws. -/
def nest (Y : World) (a b c d e : Obj) : World := (((((Y.alloc a).alloc b).alloc c).alloc d).alloc e).drew
section
variable {Y : World}
theorem nest_below (a b c d e : Obj) : Below Y.heap.size Y (nest Y a b c d e) := (((((((Below.refl _ _).alloc (Nat.le_refl _) a).alloc (by simp) b).alloc (by simp; omega) c).alloc (by simp; omega) d).alloc (by simp; omega) e)).drew
theorem nest_size (a b c d e : Obj) : (nest Y a b c d e).heap.size = Y.heap.size + 5 := by
  show (((((Y.alloc a).alloc b).alloc c).alloc d).alloc e).heap.size = _
  simp
theorem nest0 (T : TypeId) (cs : Array Value) (b c d e : Obj) : Blk (nest Y (.cells cs T) b c d e) Y.heap.size T cs := by
  show Blk (((((Y.alloc (.cells cs T)).alloc b).alloc c).alloc d).alloc e) _ _ _
  exact ((((Blk.new Y T cs).al b).al c).al d).al e
theorem nest1 (T : TypeId) (cs : Array Value) (a c d e : Obj) : Blk (nest Y a (.cells cs T) c d e) (Y.heap.size + 1) T cs := by
  show Blk (((((Y.alloc a).alloc (.cells cs T)).alloc c).alloc d).alloc e) _ _ _
  have h := Blk.new (Y.alloc a) T cs
  rw [show (Y.alloc a).heap.size = Y.heap.size + 1 by simp] at h
  exact ((h.al c).al d).al e
theorem nest2 (T : TypeId) (cs : Array Value) (a b d e : Obj) : Blk (nest Y a b (.cells cs T) d e) (Y.heap.size + 1 + 1) T cs := by
  show Blk (((((Y.alloc a).alloc b).alloc (.cells cs T)).alloc d).alloc e) _ _ _
  have h := Blk.new ((Y.alloc a).alloc b) T cs
  rw [show ((Y.alloc a).alloc b).heap.size = Y.heap.size + 1 + 1 by simp] at h
  exact (h.al d).al e
theorem nest3 (T : TypeId) (cs : Array Value) (a b c e : Obj) : Blk (nest Y a b c (.cells cs T) e) (Y.heap.size + 1 + 1 + 1) T cs := by
  show Blk (((((Y.alloc a).alloc b).alloc c).alloc (.cells cs T)).alloc e) _ _ _
  have h := Blk.new (((Y.alloc a).alloc b).alloc c) T cs
  rw [show (((Y.alloc a).alloc b).alloc c).heap.size = Y.heap.size + 1 + 1 + 1 by simp] at h
  exact h.al e
theorem nest4 (T : TypeId) (cs : Array Value) (a b c d : Obj) : Blk (nest Y a b c d (.cells cs T)) (Y.heap.size + 1 + 1 + 1 + 1) T cs := by
  show Blk (((((Y.alloc a).alloc b).alloc c).alloc d).alloc (.cells cs T)) _ _ _
  have h := Blk.new ((((Y.alloc a).alloc b).alloc c).alloc d) T cs
  rwa [show ((((Y.alloc a).alloc b).alloc c).alloc d).heap.size = Y.heap.size + 1 + 1 + 1 + 1 by simp] at h
end
theorem AcRaw.mono2 {W : World} {F G : Nat → Prop} {a : Ac} (h : AcRaw W F a) (hG : ∀ b, b < W.heap.size → F b → G b) : AcRaw W G a := ⟨h.keys.mono hG, h.kids.mono hG, h.vals.mono hG, h.hl.mono hG⟩
/-- One call more. -/
theorem Kn.act {w0 Y V w' : World} {lv tv : Value} {i j g cap : Nat} {q : List Ac} {u : List Int} {a : Ac} {l : List Value} (h : Kn w0 Y lv tv i j q u) (E : Below Y.heap.size Y V) (hl : l = acRow a) (hr : AcRaw V (fun b => Y.heap.size ≤ b) a) (ho : w'.ownsRow w0.heap.size 38 6 (.slice (some ⟨g, 0, none⟩) (i + 1) cap) (i + 1) (q.flatMap acRow ++ l)) (hg : V.grownBy w' lv.ownBlock) (hlie : lv.ownBlock = some g ∨ g = V.heap.size) : Kn w0 w' (.slice (some ⟨g, 0, none⟩) (i + 1) cap) tv (i + 1) j (q ++ [a]) u := by
  have hs := E.size
  have hlt : ∀ k, lv.ownBlock = some k → w0.heap.size ≤ k ∧ k < Y.heap.size := fun k hk => h.acts.lt k hk
  have htt : ∀ k, tv.ownBlock = some k → w0.heap.size ≤ k ∧ k < Y.heap.size := fun k hk => h.turns.lt k hk
  have hT : Turns (fun b => lv.ownBlock = some b) V w' := Turns.of_grown hg
  have hb : Below w0.heap.size w0 V := h.bel.trans (E.mono h.bel.size)
  have hgk : ∀ b, b < V.heap.size → lv.ownBlock ≠ some b → (Value.slice (some ⟨g, 0, none⟩) (i + 1) cap).ownBlock ≠ some b := by
    intro b h1 h2 h3
    have h4 : g = b := by simpa [Value.ownBlock] using h3
    subst h4
    rcases hlie with h5 | h5
    · exact h2 h5
    · omega
  refine ⟨hb.trans (hT.below hb.size (fun b hb => (hlt b hb).1)), ?_, by simp [h.len], fun k a' hk => ?_, (own_below h.turns E).kept hg (own_ne (own_below h.turns E) (own_below h.acts E) (by decide)), h.ulen⟩
  · rw [List.flatMap_append]
    subst hl
    simpa using ho
  · rcases Nat.lt_or_ge k q.length with h1 | h1
    · rw [List.getElem?_append_left h1] at hk
      have h2 := ((h.raw k a' hk).below E).mono2 (G := fun b => (lv.ownBlock ≠ some b ∧ tv.ownBlock ≠ some b) ∧ b < V.heap.size) (fun b hb hf => ⟨hf, hb⟩)
      exact (h2.turn hT (fun b hb hg => hb.1.1 hg)).mono fun b hb => ⟨hgk b hb.2 hb.1.1, hb.1.2⟩
    · obtain rfl : a' = a := by
        rw [List.getElem?_append_right h1] at hk
        cases hz : k - q.length with
        | zero =>
          rw [hz] at hk
          simpa using hk.symm
        | succ z =>
          rw [hz] at hk
          simp at hk
      have h2 := hr.mono2 (G := fun b => Y.heap.size ≤ b ∧ b < V.heap.size) (fun b hb hf => ⟨hf, hb⟩)
      refine (h2.turn hT (fun b hb hg => by have := (hlt b hg).2; omega)).mono fun b hb => ⟨hgk b hb.2 (fun e => ?_), fun e => ?_⟩
      · have := (hlt b e).2
        omega
      · have := (htt b e).2
        omega
/-- The call that the law makes. -/
def mkAc (x : Int) (lf : Bool) (bs bh bi b2 k2 k6 : Nat) (k3 k32 kk ky : Int) : Ac := ⟨x, ⟨some ⟨bs, 0, none⟩, k2, 1, some ⟨bh, 0, none⟩, 1, 1, some ⟨bi, 0, none⟩, 1, 1⟩, ⟨lf, [(⟨#[97]⟩ : ByteArray)].take k2, [(k3, k32)], [kk]⟩, some ⟨b2, 0, none⟩, k6, 2, [(k3, k32), (ky, 1)].take k6⟩
theorem mk_raw {V : World} {F : Nat → Prop} {x : Int} {lf : Bool} {bs bh bi b2 k2 k6 : Nat} {k3 k32 kk ky : Int} {T1 T2 T3 T4 : TypeId} (h1 : Blk V bs T1 #[.string ⟨#[97]⟩]) (h2 : Blk V bh T2 #[.int .i64 k3, .int .i64 k32]) (h3 : Blk V bi T3 #[.int .i64 kk]) (h4 : Blk V b2 T4 #[.int .i64 k3, .int .i64 k32, .int .i64 ky, .int .i64 1]) (f1 : F bs) (f2 : F bh) (f3 : F bi) (f4 : F b2) (l2 : k2 < 2) (l6 : k6 < 3) : AcRaw V F (mkAc x lf bs bh bi b2 k2 k6 k3 k32 kk ky) := by
  refine ⟨?_, Cells.of_blk h2 f2 rfl rfl, Cells.of_blk h3 f3 rfl rfl, ?_⟩
  · obtain rfl | rfl : k2 = 0 ∨ k2 = 1 := by omega
    · exact Cells.nil _ _ _ _
    · exact Cells.of_blk h1 f1 rfl rfl
  · obtain rfl | rfl | rfl : k6 = 0 ∨ k6 = 1 ∨ k6 = 2 := by omega
    · exact Cells.nil _ _ _ _
    · exact Cells.of_blk h4 f4 rfl rfl
    · exact Cells.of_blk h4 f4 rfl rfl
theorem act_append {w0 Y : World} {a b c d : Obj} {l : List Value} {ops : Array Oper} {o : Oper} {act : Act} {K : Act → World → Prop} {Q : Exit → Act → World → Prop} {E : Prop} {lv tv : Value} {i j : Nat} {q : List Ac} {u : List Int} (hK : Kn w0 Y lv tv i j q u) (hi : i < 5) (hw : Region.wanted o (yielded ops act.tmps) = true) (s x : Operand)
    (ho : o.op = .call { callee := .builtin .append, args := #[s, x], argTypes := #[22, 22] }) (hs : act.eval s = lv) (hx : act.eval x = .slice (some ⟨Y.heap.size + 1 + 1 + 1 + 1, 0, none⟩) 1 1) (hl : l.length = 6) (h1 : ∀ u ∈ l, u.oneCell' = true)
    (h : ∀ g cap w', w'.ownsRow w0.heap.size 38 6 (.slice (some ⟨g, 0, none⟩) (i + 1) cap) (i + 1) (q.flatMap acRow ++ l) → (nest Y a b c d (.cells l.toArray 38)).grownBy w' lv.ownBlock → (lv.ownBlock = some g ∨ g = (nest Y a b c d (.cells l.toArray 38)).heap.size) → K (act.put o.dst (.slice (some ⟨g, 0, none⟩) (i + 1) cap)) w') :
    if Region.wanted o (yielded ops act.tmps) = true then Oper.wp Tryd.prog o act (((((Y.alloc a).alloc b).alloc c).alloc d).alloc (.cells l.toArray 38)).drew K Q else E := by
  obtain ⟨ia, hia, haz0, haz1, haz2⟩ := info_parts Tryd.info38
  have hE := nest_below (Y := Y) a b c d (.cells l.toArray 38)
  exact step_append_here11 (w := (nest Y a b c d (.cells l.toArray 38))) hw s x 22 ho w0.heap.size 38 ia _ 6 112 Tryd.underlying22 hia haz0 haz1 haz2 rfl (by decide) lv i _ hs (own_below hK.acts hE) ⟨Y.heap.size + 1 + 1 + 1 + 1, 0, none⟩ 1 1 l hx (by rw [hl]) (fun j u hj => by
    have h2 := (nest4 (Y := Y) 38 l.toArray a b c d).cell j
    rw [List.getElem?_toArray, hj] at h2
    rw [add_at, Nat.zero_add]
    exact h2) h1 (by decide) (by unfold maxLen; omega) (by omega) (Nat.le_trans hK.bel.size hE.size) _ rfl (fun g cap w' e1 e2 e3 _ => h g cap w' e1 e2 e3)
end Go.Proofs.YtgpcpjjdneimfaaDoor

namespace Go.Proofs.YtgpcpjjdneimfaaDoor
open Go.ChangeShapes Go.WideShapes Go.ChangeAt Go.RowKit

theorem flat_at2 {α : Type} {row : α → List Value} {s : Nat} (hrow : ∀ a, (row a).length = s) (l : List α) (i : Nat) (a : α) (h : l[i]? = some a) (q : Nat) (hq : q < s) : (l.flatMap row)[i * s + q]? = (row a)[q]? := by
  induction l generalizing i with
  | nil => simp at h
  | cons y r ih =>
    rw [List.flatMap_cons]
    cases i with
    | zero =>
      simp at h
      subst h
      rw [Nat.zero_mul, Nat.zero_add, List.getElem?_append_left (by rw [hrow]; exact hq)]
    | succ i =>
      simp at h
      rw [List.getElem?_append_right (by rw [hrow, Nat.add_mul]; omega), hrow, show (i + 1) * s + q - s = i * s + q by rw [Nat.add_mul]; omega]
      exact ih i h
/-- One number more. -/
theorem Kn.num {w0 Y w' : World} {lv tv tv' : Value} {i j : Nat} {q : List Ac} {u : List Int} {x : Int} {o : Obj} (h : Kn w0 Y lv tv i j q u) (ho : w'.ownsRow w0.heap.size 3 1 tv' (j + 1) (intL u ++ [.int .i64 x])) (hg : (Y.alloc o).grownBy w' tv.ownBlock) (hlie0 : tv'.ownBlock = tv.ownBlock ∨ tv'.ownBlock = some (Y.heap.size + 1)) : Kn w0 w' lv tv' i (j + 1) q (u ++ [x]) := by
  have E : Below Y.heap.size Y (Y.alloc o) := (Below.refl _ _).alloc (Nat.le_refl _) _
  have hlie : tv'.ownBlock = tv.ownBlock ∨ tv'.ownBlock = some (Y.alloc o).heap.size := by rwa [show (Y.alloc o).heap.size = Y.heap.size + 1 by simp]
  have hlt : ∀ k, lv.ownBlock = some k → w0.heap.size ≤ k ∧ k < Y.heap.size := fun k hk => h.acts.lt k hk
  have htt : ∀ k, tv.ownBlock = some k → w0.heap.size ≤ k ∧ k < Y.heap.size := fun k hk => h.turns.lt k hk
  have hT : Turns (fun b => tv.ownBlock = some b) (Y.alloc o) w' := Turns.of_grown hg
  have hb : Below w0.heap.size w0 (Y.alloc o) := h.bel.trans (E.mono h.bel.size)
  refine ⟨hb.trans (hT.below hb.size (fun b hb => (htt b hb).1)), (own_below h.acts E).kept hg (own_ne (own_below h.acts E) (own_below h.turns E) (by decide)), h.len, fun k a hk => ?_, by simpa [intL] using ho, by simp [h.ulen]⟩
  have h2 := ((h.raw k a hk).below E).mono2 (G := fun b => (lv.ownBlock ≠ some b ∧ tv.ownBlock ≠ some b) ∧ b < (Y.alloc o).heap.size) (fun b hb hf => ⟨hf, hb⟩)
  refine (h2.turn hT (fun b hb hg => hb.1.2 hg)).mono fun b hb => ⟨hb.1.1, fun e => ?_⟩
  rcases hlie with h5 | h5
  · exact hb.1.2 (h5 ▸ e)
  · rw [h5] at e
    injection e with e
    have := hb.2
    omega
/-- The rows, as the laws want them. -/
theorem Kn.actIn {w0 wr : World} {A : Option Addr} {c i j : Nat} {tv : Value} {q : List Ac} {u : List Int} (h : Kn w0 wr (.slice A i c) tv i j q u) : ActIn wr (fun b => b < wr.heap.size) A i q where
  len := h.len
  row h0 := by
    have hc := Cells.of_own h.acts
    obtain ⟨b, off, h1, -, h3, h4⟩ := hc.2 h0
    refine ⟨b, off, h1, h3, h3, fun k a hk j hj => ?_⟩
    have h5 := flat_at2 (row := acRow) (s := 6) (fun _ => rfl) q k a hk j hj
    obtain ⟨u, hu⟩ : ∃ u, (acRow a)[j]? = some u := ⟨_, List.getElem?_eq_getElem (by show j < 6; exact hj)⟩
    rw [hu] at h5 ⊢
    rw [Nat.add_assoc]
    exact h4 _ _ h5
  raw k a hk := (h.raw k a hk).mono2 fun _ h _ => h
theorem Kn.intsIn {w0 wr : World} {lv : Value} {A : Option Addr} {c i j : Nat} {q : List Ac} {u : List Int} (h : Kn w0 wr lv (.slice A j c) i j q u) (hu : ∀ y ∈ u, -9223372036854775808 ≤ y ∧ y ≤ 9223372036854775807) : Ints wr wr.heap.size A j u := by
  have hc := Cells.of_own h.turns
  refine ⟨h.ulen, hu, fun h0 => ?_⟩
  obtain ⟨b, off, h1, -, h3, h4⟩ := hc.2 h0
  refine ⟨b, off, h1, h3, fun k hk => ?_⟩
  have h5 : u[k]? = some (u.getD k 0) := by
    rw [List.getD_eq_getElem?_getD, List.getElem?_eq_getElem (by rw [h.ulen]; exact hk)]
    rfl
  exact h4 k _ (by simp only [intL, List.getElem?_map, h5, Option.map_some])
theorem ActIn.nil (w : World) : ActIn w (fun b => b < w.heap.size) none 0 [] := ⟨rfl, fun h => absurd h (by omega), fun i a h => by simp at h⟩
theorem AcRaw.alone {W : World} {F : Nat → Prop} {a : Ac} (h : AcRaw W F a) : AcRaw W F ⟨0, a.v, a.d, none, 0, 0, []⟩ := ⟨h.keys, h.kids, h.vals, Cells.nil _ _ _ _⟩
end Go.Proofs.YtgpcpjjdneimfaaDoor
