/- Rows of rows of a call's own: copies of rows of bytes, gathered one by one. -/
import Derived.Test.YtflfmcicidgkmaaParts
import Derived.Laws.IdiomStrings
namespace Go.Proofs.Ytflfmcicidgkmaa
open Go.ChangeShapes Go.WideShapes Go.ChangeAt Go.RowKit

theorem own_below {B e k n : Nat} {v : Value} {xs : List Value} {w w' : World} (h : w.ownsRow B e k v n xs) (hb : Below w.heap.size w w') : w'.ownsRow B e k v n xs :=
  h.kept (row := none) ⟨hb.os, hb.tape, hb.output, hb.size, fun i hi _ => hb.block i hi⟩ (by
    cases hv : v.ownBlock with
    | none => exact .inl rfl
    | some g => exact .inr (by simp))
theorem own_ne {w : World} {b1 b2 e1 e2 s1 s2 n1 n2 : Nat} {v1 v2 : Value} {x1 x2 : List Value} (h1 : w.ownsRow b1 e1 s1 v1 n1 x1) (h2 : w.ownsRow b2 e2 s2 v2 n2 x2) (hne : e1 ≠ e2) : v1.ownBlock = none ∨ v1.ownBlock ≠ v2.ownBlock := by
  rcases h1.2 with ⟨rfl, _⟩ | ⟨g, cap, cur, rfl, _, hh, _⟩
  · exact .inl rfl
  · rcases h2.2 with ⟨rfl, _⟩ | ⟨g', cap', cur', rfl, _, hh', _⟩
    · exact .inr (by simp [Value.ownBlock])
    · refine .inr (fun he => ?_)
      have : g = g' := by simpa [Value.ownBlock] using he
      subst this
      rw [hh] at hh'
      injection hh' with hh'
      injection hh' with _ ht
      exact hne ht
theorem own_lower {w : World} {b b' e s n : Nat} {v : Value} {xs : List Value} (h : w.ownsRow b e s v n xs) (hb : b' ≤ b) : w.ownsRow b' e s v n xs := by
  refine ⟨h.1, ?_⟩
  rcases h.2 with h2 | ⟨g, cap, cur, h1, h2, h3⟩
  · exact .inl h2
  · exact .inr ⟨g, cap, cur, h1, by omega, h3⟩
theorem own_max {w : World} {b e s n c : Nat} {a : Option Addr} {xs : List Value} (h : w.ownsRow b e s (.slice a n c) n xs) : n ≤ 9223372036854775807 := by
  rcases h.2 with ⟨_, h0⟩ | ⟨g, cap, cur, _, _, _, h1, h2, _⟩
  · omega
  · have : maxLen = 9223372036854775807 := rfl
    omega

/-- The first k rows of ls, copied: v is a row of their slices. -/
def OwnRows (B : Nat) (wr : World) (ls : List (List Nat)) (k : Nat) (v : Value) : Prop :=
  ∃ vs : List Value, wr.ownsRow B 24 1 v k vs ∧ ∀ j, j < k → ∃ a m c, vs[j]? = some (.slice a m c) ∧ wr.ownsRow B 5 1 (.slice a m c) m (u8s (ls.getD j []))

theorem OwnRows.none_ (B : Nat) (w : World) (ls : List (List Nat)) : OwnRows B w ls 0 (.slice none 0 0) := ⟨[], own_nil _ _ _ _, fun j hj => absurd hj (by omega)⟩
theorem OwnRows.step {B k m c : Nat} {wr w1 w2 : World} {ls : List (List Nat)} {v v' : Value} {a : Option Addr} {o : Obj} {vs : List Value}
    (hvs : wr.ownsRow B 24 1 v k vs) (hj : ∀ j, j < k → ∃ a m c, vs[j]? = some (.slice a m c) ∧ wr.ownsRow B 5 1 (.slice a m c) m (u8s (ls.getD j [])))
    (hb : Below wr.heap.size wr w1) (hBw : B ≤ wr.heap.size) (ho : w1.ownsRow wr.heap.size 5 1 (.slice a m c) m (u8s (ls.getD k [])))
    (hg : (w1.alloc o).grownBy w2 v.ownBlock) (h2 : w2.ownsRow B 24 1 v' (k + 1) (vs ++ [.slice a m c])) : OwnRows B w2 ls (k + 1) v' := by
  have hv1 := (own_below hvs hb).alloc o
  refine ⟨_, h2, fun j hjk => ?_⟩
  have hlen : vs.length = k := by have := hvs.1; omega
  by_cases e : j < k
  · obtain ⟨a', m', c', h3, h4⟩ := hj j e
    have h5 := (own_below h4 hb).alloc o
    exact ⟨a', m', c', by rw [List.getElem?_append_left (by omega)]; exact h3, h5.kept hg (own_ne h5 hv1 (by decide))⟩
  · obtain rfl : j = k := by omega
    have h5 := (own_lower ho hBw).alloc o
    exact ⟨a, m, c, by rw [List.getElem?_append_right (by omega), hlen, Nat.sub_self]; rfl, h5.kept hg (own_ne h5 hv1 (by decide))⟩
theorem OwnRows.rows {B n c : Nat} {w : World} {ls : List (List Nat)} {A : Option Addr} (h : OwnRows B w ls n (.slice A n c)) (hl : ls.length = n) (hx : ∀ l ∈ ls, ∀ x ∈ l, x < 256) : RowsOf w w.heap.size A n ls := by
  obtain ⟨vs, h1, h2⟩ := h
  refine ⟨hl, fun h0 => ?_⟩
  obtain ⟨g, cap, hv, _, hlt⟩ := h1.form h0
  have hA : A = some ⟨g, 0, none⟩ := by injection hv
  subst hA
  refine ⟨g, 0, rfl, hlt, fun i hi => ?_⟩
  obtain ⟨a, m, c', h3, h4⟩ := h2 i hi
  refine ⟨a, m, c', ?_, own_max h4, Bytes.of_own h4 (fun x hxx => ?_)⟩
  · have := h1.cells (g := g) rfl i _ h3
    rw [add_at] at this
    exact this
  · refine hx (ls.getD i []) ?_ x hxx
    rw [List.getD_eq_getElem?_getD, List.getElem?_eq_getElem (by omega)]
    exact List.getElem_mem (by omega)
theorem RowsOf.more {w : World} {B B' n : Nat} {A : Option Addr} {ls : List (List Nat)} (h : RowsOf w B A n ls) (hB : B ≤ B') : RowsOf w B' A n ls :=
  ⟨h.1, fun h0 => by
    obtain ⟨b, off, e, hb, hc⟩ := h.2 h0
    refine ⟨b, off, e, by omega, fun i hi => ?_⟩
    obtain ⟨a, m, c, h1, h2, h3⟩ := hc i hi
    exact ⟨a, m, c, h1, h2, h3.more hB⟩⟩
theorem RowsOf.madeAt {w : World} {B n c g : Nat} {A : Option Addr} {l : List Nat} {t : TypeId} (hg : g = w.heap.size) (hb : Bytes w B A n l) (hB : B ≤ w.heap.size) (hn : n ≤ 9223372036854775807) : RowsOf (w.alloc (.cells #[.slice A n c] t)) (w.heap.size + 1) (some ⟨g, 0, none⟩) 1 [l] := by
  subst hg
  exact RowsOf.made hb hB hn
theorem Bytes.drew {w : World} {B n : Nat} {A : Option Addr} {l : List Nat} (h : Bytes w B A n l) : Bytes w.drew B A n l := h
theorem Bytes.drewN {w : World} {B n : Nat} {A : Option Addr} {l : List Nat} (h : Bytes w B A n l) (k : Nat) : Bytes (w.drewN k) B A n l := h
theorem below_drewN {B : Nat} {a w : World} (h : Below B a w) (n : Nat) : Below B a (w.drewN n) := ⟨h.os, h.tape, h.output, h.size, h.block⟩
theorem one_cell (w : World) (t : TypeId) (u : Value) : ∀ j v, ([u] : List Value)[j]? = some v → (w.alloc (.cells #[u] t)).cell? ((⟨w.heap.size, 0, none⟩ : Addr).add j) = some v := by
  intro j v h
  match j with
  | 0 =>
    rw [add_at]
    exact ((Blk.new w t #[u]).cell 0).trans h
  | j + 1 => simp at h
def textOf (l : List Nat) : ByteArray := ⟨(l.map UInt8.ofNat).toArray⟩
/-- A slice of bytes, turned into a text. -/
theorem conv_bytes {W : World} {B n c : Nat} {A : Option Addr} {l : List Nat} (h : Bytes W B A n l) : nums (textOf l) = l ∧ (textOf l).size = n ∧ (convert 24 9 (.slice A n c)).run Try.prog W = .ok (.string (textOf l)) W := by
  have hn : nums ⟨(l.map UInt8.ofNat).toArray⟩ = l := by
    have : ∀ k : List Nat, (∀ x ∈ k, x < 256) → (k.map UInt8.ofNat).map UInt8.toNat = k := by
      intro k
      induction k with
      | nil => intro _; rfl
      | cons a t ih =>
        intro hk
        rw [List.map_cons, List.map_cons, ih (fun x hx => hk x (by simp [hx])), UInt8.toNat_ofNat_of_lt' (hk a (by simp))]
    exact this l h.2.1
  refine ⟨hn, by rw [← nums_len, show nums (textOf l) = l from hn]; exact h.1, ?_⟩
  rcases A with _ | ad
  · have h0 : n = 0 := by
      rcases Nat.eq_zero_or_pos n with h0 | h0
      · exact h0
      · obtain ⟨b, off, e, _⟩ := h.2.2 h0
        cases e
    subst h0
    obtain rfl : l = [] := List.eq_nil_of_length_eq_zero h.1
    exact run_convert_bytes_nil W _ _ Try.underlying24 Try.underlying5 _ _ _ Try.underlying9
  · have hl : (l.map UInt8.ofNat).length = n := by simp [h.1]
    have := run_convert_bytes_back (P := Try.prog) W 24 9 5 ad c (l.map UInt8.ofNat) Try.underlying24 Try.underlying5 Try.underlying9 (fun j hj => by
      have hj' : j < n := by omega
      obtain ⟨b, off, e, _, hc⟩ := h.2.2 (by omega)
      injection e with e
      subst e
      have hlt : l[j]'(by rw [h.1]; exact hj') < 256 := h.2.1 _ (List.getElem_mem _)
      rw [add_at, hc j hj', List.getD_eq_getElem?_getD, List.getElem?_eq_getElem (by rw [h.1]; exact hj'), List.getElem_map, UInt8.toNat_ofNat_of_lt' hlt]
      rfl)
    rw [hl] at this
    exact this
theorem bytes_four (w : World) (t : TypeId) (s : Nat) (hs : s < 4294967296) (v0 v1 v2 v3 : Int) (h0 : v0 = (s / 16777216 : Nat)) (h1 : v1 = (s / 65536 % 256 : Nat)) (h2 : v2 = (s / 256 % 256 : Nat)) (h3 : v3 = (s % 256 : Nat)) :
    Bytes (w.alloc (.cells #[.int .u8 v0, .int .u8 v1, .int .u8 v2, .int .u8 v3] t)) (w.heap.size + 1) (some ⟨w.heap.size, 0, none⟩) 4 (be4 s) := by
  subst h0 h1 h2 h3
  have hk := Blk.new w t #[.int .u8 ((s / 16777216 : Nat) : Int), .int .u8 ((s / 65536 % 256 : Nat) : Int), .int .u8 ((s / 256 % 256 : Nat) : Int), .int .u8 ((s % 256 : Nat) : Int)]
  refine ⟨rfl, be4_lt s hs, fun _ => ⟨w.heap.size, 0, rfl, by omega, fun i hi => ?_⟩⟩
  match i, hi with
  | 0, _ => exact hk.cell 0
  | 1, _ => exact hk.cell 1
  | 2, _ => exact hk.cell 2
  | 3, _ => exact hk.cell 3
theorem Try.info24 : (Try.prog.info? 24).map (fun i => (i.zero, i.size, i.bytes)) = some (some (.slice none 0 0), 1, 24) := by kernel_rfl
end Go.Proofs.Ytflfmcicidgkmaa
