/- Layer 15: versions in memory. No function of the program is named here. -/
import Derived.Test.YteegnehfagkjcaaCnA
import Derived.Test.YteegnehfagkjcaaRow
namespace Go.Proofs.Yteegnehfagkjcaa
open Go.ChangeShapes Go.WideShapes Go.ChangeAt Go.RowKit

def verC (v : Cn.Ver) : List Value := [.int .u64 (v.e : Int), .bool v.d, .int .i64 v.a.c, .int .i64 v.a.s, .int .i64 v.a.lo, .int .i64 v.a.hi]
def vrL (l : List Cn.Ver) : List Value := l.flatMap verC
theorem vrL_one (l : List Cn.Ver) : ∀ u ∈ vrL l, u.oneCell' = true := by
  intro u hu
  obtain ⟨v, _, h⟩ := List.mem_flatMap.1 hu
  simp only [verC, List.mem_cons, List.not_mem_nil, or_false] at h
  rcases h with rfl | rfl | rfl | rfl | rfl | rfl <;> rfl
theorem vrL_len (l : List Cn.Ver) : (vrL l).length = l.length * 6 := by
  induction l with
  | nil => rfl
  | cons y r ih =>
    rw [vrL, List.flatMap_cons, List.length_append]
    have : (r.flatMap verC).length = r.length * 6 := ih
    rw [this, show (verC y).length = 6 from rfl, List.length_cons]
    omega
theorem vrL_append (a b : List Cn.Ver) : vrL (a ++ b) = vrL a ++ vrL b := by simp [vrL]
theorem vrL_at (l : List Cn.Ver) (i : Nat) (x : Cn.Ver) (h : l[i]? = some x) (q : Nat) (hq : q < 6) : (vrL l)[i * 6 + q]? = (verC x)[q]? := by
  induction l generalizing i with
  | nil => simp at h
  | cons y r ih =>
    have e : vrL (y :: r) = verC y ++ vrL r := by simp [vrL]
    rw [e]
    cases i with
    | zero =>
      simp at h
      subst h
      rw [Nat.zero_mul, Nat.zero_add, List.getElem?_append_left (by exact hq)]
    | succ i =>
      simp at h
      rw [List.getElem?_append_right (by show 6 ≤ _; omega), show (i + 1) * 6 + q - (verC y).length = i * 6 + q by show (i + 1) * 6 + q - 6 = _; omega]
      exact ih i h
theorem vrL_snoc (l : List Cn.Ver) (j : Nat) (x : Cn.Ver) (h : l[j]? = some x) : vrL (l.take (j + 1)) = vrL (l.take j) ++ verC x := by
  have hj := (List.getElem?_eq_some_iff.1 h).1
  rw [List.take_succ_eq_append_getElem hj, vrL_append]
  rw [List.getElem?_eq_getElem hj] at h
  rw [Option.some.inj h]
  simp [vrL]
theorem vrL_take (l : List Cn.Ver) (k : Nat) : (vrL l).take (k * 6) = vrL (l.take k) := by
  induction l generalizing k with
  | nil => simp [vrL]
  | cons y r ih =>
    cases k with
    | zero => simp [vrL]
    | succ k =>
      have e : vrL (y :: r) = verC y ++ vrL r := by simp [vrL]
      have e2 : vrL ((y :: r).take (k + 1)) = verC y ++ vrL (r.take k) := by simp [vrL]
      rw [e, e2, List.take_append, List.take_of_length_le (by show 6 ≤ _; omega), show (k + 1) * 6 - (verC y).length = k * 6 by show (k + 1) * 6 - 6 = _; omega, ih]
theorem vrL_drop (l : List Cn.Ver) (k : Nat) : (vrL l).drop (k * 6) = vrL (l.drop k) := by
  have h := List.take_append_drop (k * 6) (vrL l)
  rw [vrL_take] at h
  have h2 : vrL (l.take k) ++ vrL (l.drop k) = vrL l := by rw [← vrL_append, List.take_append_drop]
  exact List.append_cancel_left (h.trans h2.symm)
/-- The cells of an element of a row. -/
theorem vr_cells {w : World} {F : Nat → Prop} {A : Option Addr} {n : Nat} {l : List Cn.Ver} (h : Cells w F A n 6 (vrL l)) {i : Nat} {x : Cn.Ver} (hx : l[i]? = some x) : ∃ b off, A = some ⟨b, off, none⟩ ∧ F b ∧ b < w.heap.size ∧
    w.cell? ⟨b, off + i * 6, none⟩ = some (.int .u64 (x.e : Int)) ∧ w.cell? ⟨b, off + i * 6 + 1, none⟩ = some (.bool x.d) ∧ w.cell? ⟨b, off + i * 6 + 2, none⟩ = some (.int .i64 x.a.c) ∧ w.cell? ⟨b, off + i * 6 + 3, none⟩ = some (.int .i64 x.a.s) ∧ w.cell? ⟨b, off + i * 6 + 4, none⟩ = some (.int .i64 x.a.lo) ∧ w.cell? ⟨b, off + i * 6 + 5, none⟩ = some (.int .i64 x.a.hi) := by
  have hl : l.length = n := by have := h.1; rw [vrL_len] at this; omega
  have hi := (List.getElem?_eq_some_iff.1 hx).1
  obtain ⟨b, off, e, hF, hb, hc⟩ := h.at_ (i := i) (by omega)
  have k := fun q hq => (hc q hq).trans (vrL_at l i x hx q hq)
  exact ⟨b, off, e, hF, hb, k 0 (by omega), k 1 (by omega), k 2 (by omega), k 3 (by omega), k 4 (by omega), k 5 (by omega)⟩
theorem vr_len {w : World} {F : Nat → Prop} {A : Option Addr} {n : Nat} {l : List Cn.Ver} (h : Cells w F A n 6 (vrL l)) : l.length = n := by have := h.1; rw [vrL_len] at this; omega
/-- A row of one version, just made. -/
theorem own_ver (w : World) (T : TypeId) (x : Cn.Ver) : (w.alloc (.cells (verC x).toArray T)).ownsRow w.heap.size T 6 (.slice (some ⟨w.heap.size, 0, none⟩) 1 1) 1 (vrL [x]) :=
  ⟨rfl, .inr ⟨w.heap.size, 1, _, rfl, Nat.le_refl _, Blk.new w T _, Nat.le_refl _, by unfold maxLen; omega, rfl, by simp [vrL, verC]⟩⟩
theorem ver_new (w : World) (T : TypeId) (x : Cn.Ver) (g : Nat) (hg : g = w.heap.size) : ∀ j u, (verC x)[j]? = some u → (w.alloc (.cells (verC x).toArray T)).cell? ((⟨g, 0, none⟩ : Addr).add j) = some u := by
  intro j u hj
  subst hg
  rw [add_at, Nat.zero_add, (Blk.new w T _).cell]
  simpa using hj
/-- A call that answers a new row of versions. -/
def VrP (w : World) (T : TypeId) (l : List Cn.Ver) (e : Ending) (w' : World) : Prop := ∃ A c, e = .returned (.slice A l.length c) ∧ w'.ownsRow w.heap.size T 6 (.slice A l.length c) l.length (vrL l) ∧ Below w.heap.size w w'

/-- A slice that may lie amid its row, in a block of F: nothing else lies behind it there. -/
def OwF (w : World) (F : Nat → Prop) (E : TypeId) (s : Nat) (A : Option Addr) (n c : Nat) (xs : List Value) : Prop :=
  (A = none ∧ n = 0 ∧ c = 0 ∧ xs = []) ∨ ∃ g o cur, A = some ⟨g, o, none⟩ ∧ F g ∧ Blk w g E cur ∧ n ≤ c ∧ c ≤ maxLen ∧ o + c * s ≤ cur.size ∧ (cur.toList.drop o).take (n * s) = xs
section
variable {w w' : World} {F G : Nat → Prop} {E : TypeId} {s n c : Nat} {A : Option Addr} {xs : List Value}
theorem OwF.turn (h : OwF w F E s A n c xs) (ht : Turns G w w') (hd : ∀ b, F b → ¬ G b) : OwF w' F E s A n c xs := by
  rcases h with h | ⟨g, o, cur, e, hF, hb, r⟩
  · exact .inl h
  · exact .inr ⟨g, o, cur, e, hF, ht.blk hb (hd g hF), r⟩
theorem OwF.below (h : OwF w F E s A n c xs) (hb : Below w.heap.size w w') : OwF w' F E s A n c xs := h.turn (G := fun _ => False) (Turns.of_below hb) fun _ _ e => e
theorem OwF.mono (h : OwF w F E s A n c xs) (hF : ∀ b, b < w.heap.size → F b → G b) : OwF w G E s A n c xs := by
  rcases h with h | ⟨g, o, cur, e, hf, hb, r⟩
  · exact .inl h
  · exact .inr ⟨g, o, cur, e, hF g hb.lt hf, hb, r⟩
theorem OwF.len (h : OwF w F E s A n c xs) : xs.length = n * s := by
  rcases h with ⟨-, rfl, -, rfl⟩ | ⟨g, o, cur, e, hf, hb, h1, h2, h3, rfl⟩
  · simp
  · rw [List.length_take, List.length_drop, Array.length_toList]
    have : n * s ≤ c * s := Nat.mul_le_mul_right s h1
    omega
theorem OwF.le (h : OwF w F E s A n c xs) : n ≤ c := by
  rcases h with ⟨-, rfl, rfl, rfl⟩ | ⟨g, o, cur, e, hf, hb, h1, -⟩
  · exact Nat.le_refl _
  · exact h1
theorem OwF.le_max (h : OwF w F E s A n c xs) : c ≤ maxLen := by
  rcases h with ⟨-, rfl, rfl, rfl⟩ | ⟨g, o, cur, e, hf, hb, h1, h2, -⟩
  · exact Nat.zero_le _
  · exact h2
theorem OwF.cells (h : OwF w F E s A n c xs) : Cells w F A n s xs := by
  refine ⟨h.len, fun h0 => ?_⟩
  rcases h with ⟨-, rfl, -, rfl⟩ | ⟨g, o, cur, e, hf, hb, h1, h2, h3, rfl⟩
  · omega
  · refine ⟨g, o, e, hf, hb.lt, fun j u hu => ?_⟩
    rw [hb.cell]
    rw [List.getElem?_take] at hu
    split at hu
    · rw [List.getElem?_drop] at hu
      simpa using hu
    · cases hu
theorem OwF.of_own {base : Nat} (h : w.ownsRow base E s (.slice A n c) n xs) : OwF w (fun b => base ≤ b) E s A n c xs := by
  rcases h.2 with ⟨e, hn⟩ | ⟨g, cap, cur, e, hb, hh, h1, h2, h3, h4⟩
  · injection e with e1 e2 e3
    subst e1 e3
    exact .inl ⟨rfl, hn, rfl, List.eq_nil_of_length_eq_zero (by rw [h.1, hn]; simp)⟩
  · injection e with e1 e2 e3
    subst e1 e3
    exact .inr ⟨g, 0, cur, rfl, hb, hh, h1, h2, by omega, by simpa using h4⟩
/-- The first k are cut off. -/
theorem OwF.cut (h : OwF w F E s A n c xs) {k : Nat} (hk : k ≤ n) : OwF w F E s (if c = k then A else A.map (·.add (k * s))) (n - k) (c - k) (xs.drop (k * s)) := by
  rcases h with ⟨rfl, rfl, rfl, rfl⟩ | ⟨g, o, cur, rfl, hf, hb, h1, h2, h3, rfl⟩
  · obtain rfl : k = 0 := by omega
    exact .inl ⟨rfl, rfl, rfl, by simp⟩
  · have e1 : k * s + (n - k) * s = n * s := by rw [← Nat.add_mul]; congr 1; omega
    have e2 : k * s + (c - k) * s = c * s := by rw [← Nat.add_mul]; congr 1; omega
    by_cases hck : c = k
    · rw [if_pos hck]
      refine .inr ⟨g, o, cur, rfl, hf, hb, by omega, by omega, by rw [hck, Nat.sub_self]; omega, ?_⟩
      have hn : n - k = 0 := by omega
      have hn2 : n = k := by omega
      rw [hn, hn2]
      simp
    · rw [if_neg hck]
      refine .inr ⟨g, o + k * s, cur, by simp [add_at], hf, hb, by omega, by omega, by omega, ?_⟩
      rw [List.drop_take, List.drop_drop, show n * s - k * s = (n - k) * s by omega]
end
theorem take_set {α : Type} (cur : List α) (o a : Nat) (news : List α) (h : o + a + news.length ≤ cur.length) : ((cur.take (o + a) ++ news ++ cur.drop (o + a + news.length)).drop o).take (a + news.length) = (cur.drop o).take a ++ news := by
  rw [List.append_assoc, List.drop_append_of_le_length (by rw [List.length_take]; omega), List.drop_take, show o + a - o = a by omega]
  rw [List.take_append, List.length_take, List.length_drop, Nat.min_eq_left (by omega), List.take_of_length_le (by rw [List.length_take]; omega), show a + news.length - a = news.length by omega, List.take_append_of_le_length (Nat.le_refl _), List.take_length]
variable {P : Program}
/-- An append to such a slice. -/
theorem run_append_off (w : World) (F : Nat → Prop) (t ty e : TypeId) (i : TypeInfo) (z : Value) (s : Nat) (ht : P.underlying t = some (.slice e)) (hi : P.info? e = some i) (hz : i.zero = some z) (hs : i.size = s) (hzs : z.cells.size = s) (hs0 : 0 < s) (hby : i.bytes ≤ 100)
    (A : Option Addr) (n c : Nat) (xs : List Value) (hown : OwF w F e s A n c xs) (hn : n ≤ 1000000)
    (a : Addr) (m c2 : Nat) (news : List Value) (hl : news.length = m * s) (hnews : ∀ j u, news[j]? = some u → w.cell? (a.add j) = some u) (h1 : ∀ u ∈ news, u.oneCell' = true) (hm0 : 0 < m) (hm : m ≤ 1000000) :
    ∃ A' c' w', (Builtin.append_ #[t, t] ty #[.slice A n c, .slice (some a) m c2]).run P w = .ok (.slice A' (n + m) c') w' ∧ OwF w' (fun b => F b ∨ w.heap.size ≤ b) e s A' (n + m) c' (xs ++ news) ∧ Turns F w w' ∧ (∀ b, Value.ownBlock (.slice A' (n + m) c') = some b → F b ∨ w.heap.size ≤ b) := by
  subst hs
  have hmx : maxLen = 9223372036854775807 := rfl
  have hlen := hown.len
  have grow : ∀ (hrun : (Builtin.append_ #[t, t] ty #[.slice A n c, .slice (some a) m c2]).run P w = .ok (.slice (some ⟨w.heap.size, 0, none⟩) (n + m) (grownCap w (n + m) c e)) (w.drew.alloc (.cells (xs.toArray ++ news.toArray ++ Builtin.zeroCells z.cells (grownCap w (n + m) c e - (n + m))) e))),
      ∃ A' c' w', (Builtin.append_ #[t, t] ty #[.slice A n c, .slice (some a) m c2]).run P w = .ok (.slice A' (n + m) c') w' ∧ OwF w' (fun b => F b ∨ w.heap.size ≤ b) e i.size A' (n + m) c' (xs ++ news) ∧ Turns F w w' ∧ (∀ b, Value.ownBlock (.slice A' (n + m) c') = some b → F b ∨ w.heap.size ≤ b) := by
    intro hrun
    have hge := grownCap_ge w (n + m) c e
    have hcm := grownCap_le_maxLen w (n + m) c e (by omega)
    refine ⟨_, _, _, hrun, .inr ⟨w.heap.size, 0, _, rfl, .inr (Nat.le_refl _), heap_alloc_new w.drew _, hge, hcm, ?_, ?_⟩, (Turns.refl _ _).drew.alloc _, fun b hb => ?_⟩
    · rw [Array.size_append, Array.size_append, List.size_toArray, List.size_toArray, hlen, hl, size_zeroCells, hzs, ← Nat.add_mul, ← Nat.add_mul]
      have : n + m + (grownCap w (n + m) c e - (n + m)) = grownCap w (n + m) c e := by omega
      rw [this]
      omega
    · rw [List.drop_zero, Array.toList_append, Array.toList_append, Nat.add_mul, ← hlen, ← hl, ← List.length_append]
      exact List.take_left' (l₁ := xs ++ news) rfl
    · have : w.heap.size = b := by simpa [Value.ownBlock] using hb
      exact .inr (by omega)
  rcases hown with ⟨rfl, rfl, rfl, rfl⟩ | ⟨g, o, cur, rfl, hf, hb, hnc, hcm, hfit, hxs⟩
  · refine grow ?_
    have hr := Go.run_append_nil (P := P) w t ty e i z ht hi hz a m c2 news hl hnews hm0 (by omega) (by have : m * i.bytes ≤ 1000000 * 100 := Nat.mul_le_mul hm hby; omega)
    rw [Nat.zero_add]
    rw [hr]
    simp
  · by_cases hroom : n + m ≤ c
    · have hf2 := run_firstCells_some (P := P) w i.size m a m c2 news hl hnews
      have hml : n * i.size + m * i.size ≤ c * i.size := by rw [← Nat.add_mul]; exact Nat.mul_le_mul_right _ hroom
      have hst := run_storeCells_at P g (o + n * i.size) e news 0 cur w hb (by simp; omega) h1
      simp only [Nat.add_zero] at hst
      refine ⟨some ⟨g, o, none⟩, c, w.setRow g (cur.toList.take (o + n * i.size) ++ news ++ cur.toList.drop (o + n * i.size + news.length)).toArray, ?_, .inr ⟨g, o, _, rfl, .inl hf, blk_setRow hb _, hroom, hcm, ?_, ?_⟩, (turns_setRow w g _).mono fun b _ e => e ▸ hf, fun b hb2 => ?_⟩
      · simp [Builtin.append_, run_underlying ht, sizeOf, typeInfo, hi, Builtin.lenOf, hroom, hf2, add_at, hst]
      · simp only [List.size_toArray, List.length_append, List.length_take, List.length_drop, Array.length_toList]
        omega
      · rw [Nat.add_mul, ← hl, ← hxs]
        exact take_set cur.toList o (n * i.size) news (by have e := cur.length_toList; omega)
      · have : g = b := by simpa [Value.ownBlock] using hb2
        exact .inl (this ▸ hf)
    · refine grow ?_
      have hold : ∀ j v, xs[j]? = some v → w.cell? ((⟨g, o, none⟩ : Addr).add j) = some v := by
        intro j u hu
        rw [add_at, hb.cell]
        rw [← hxs, List.getElem?_take] at hu
        split at hu
        · rw [List.getElem?_drop] at hu
          simpa using hu
        · cases hu
      have hns : Builtin.nextslicecap (n + m) c * i.bytes ≤ 281474976710656 := growslice_fits (by omega) (by have : (n + m) * i.bytes ≤ 2000000 * 100 := Nat.mul_le_mul (by omega) hby; omega)
      exact run_append_grow (P := P) w t ty e i z ht hi hz ⟨g, o, none⟩ n c xs hlen hold a m c2 news hl hnews (by omega) (by omega) hns
end Go.Proofs.Yteegnehfagkjcaa
