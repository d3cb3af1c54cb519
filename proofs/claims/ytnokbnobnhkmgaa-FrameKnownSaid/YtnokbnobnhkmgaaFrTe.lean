/- Layer 7's streams: what the law on pieces wants beside: rows off the stream's blocks, what is told put behind what was, a piece written over. -/
import Derived.Test.YtnokbnobnhkmgaaFrTo
import Derived.Test.YtnokbnobnhkmgaaSpoilB
import Derived.Test.YtnokbnobnhkmgaaInts
import Derived.Test.YtnokbnobnhkmgaaPick
import Derived.Test.YtnokbnobnhkmgaaBools
namespace Go.Proofs.Ytnokbnobnhkmgaa
open Go.ChangeShapes Go.WideShapes Go.ChangeAt Go.RowKit

theorem BytesFar.nil (w : World) (H : List Nat) (A : Option Addr) : BytesFar w H A 0 [] := ⟨Bytes.nil, fun _ _ _ h => absurd h (by omega)⟩
/-- Bytes of a block that is none of H. -/
theorem BytesFar.of_own {w : World} {B n c : Nat} {A : Option Addr} {l : List Nat} {e : TypeId} {H : List Nat} (h : w.ownsRow B e 1 (.slice A n c) n (u8s l)) (hl : ∀ x ∈ l, x < 256) (ho : Off H (.slice A n c)) : BytesFar w H A n l := by
  refine ⟨Bytes.of_own h hl, fun b off he h0 hb => ?_⟩
  obtain ⟨g, cap, hv, _, _⟩ := h.form h0
  injection hv with hA _ _
  rw [hA] at he
  injection he with he
  injection he with he _
  subst he
  subst hA
  exact ho g hb rfl
theorem BytesFar.below {w w' : World} {n : Nat} {A : Option Addr} {l : List Nat} {H : List Nat} (h : BytesFar w H A n l) (hb : Below w.heap.size w w') : BytesFar w' H A n l := ⟨(h.1.below hb (Nat.le_refl _)).more hb.size, h.2⟩
theorem BytesFar.head {w : World} {n : Nat} {A : Option Addr} {l : List Nat} {H : List Nat} (h : BytesFar w H A n l) {j : Nat} (hj : j ≤ n) : BytesFar w H A j (l.take j) := ⟨h.1.head hj, fun b off he h0 => h.2 b off he (by omega)⟩
theorem BytesFar.cut {w : World} {n c : Nat} {A : Option Addr} {l : List Nat} {H : List Nat} (h : BytesFar w H A n l) {i : Nat} (hi : i ≤ n) (hc : n ≤ c) : BytesFar w H (if c = i then A else A.map (·.add i)) (n - i) (l.drop i) := by
  refine ⟨h.1.cut hi hc, fun b off he h0 => ?_⟩
  rw [if_neg (by omega)] at he
  obtain ⟨b', off', rfl, _, _⟩ := h.1.2.2 (by omega)
  have h2 := h.2 b' off' rfl (by omega)
  simp [add_at] at he
  rw [← he.1]
  exact h2
theorem RowsFar.one {w : World} {H : List Nat} {A : Option Addr} {n c : Nat} {l : List Nat} {t : TypeId} (h : BytesFar w H A n l) (hH : ∀ k ∈ H, k < w.heap.size) : RowsFar (w.alloc (.cells #[.slice A n c] t)) H (some ⟨w.heap.size, 0, none⟩) 1 [l] := by
  refine ⟨rfl, fun _ => ⟨w.heap.size, 0, rfl, by simp, fun hm => by have := hH _ hm; omega, fun i hi => ?_⟩⟩
  obtain rfl : i = 0 := by omega
  exact ⟨A, n, c, (Blk.new w t _).cell 0, h.below ((Below.refl _ _).alloc (Nat.le_refl _) _)⟩
theorem RowsFar.three {w : World} {H : List Nat} {A1 A2 A3 : Option Addr} {n1 n2 n3 c1 c2 c3 : Nat} {l1 l2 l3 : List Nat} {t : TypeId} (h1 : BytesFar w H A1 n1 l1) (h2 : BytesFar w H A2 n2 l2) (h3 : BytesFar w H A3 n3 l3) (hH : ∀ k ∈ H, k < w.heap.size) : RowsFar (w.alloc (.cells #[.slice A1 n1 c1, .slice A2 n2 c2, .slice A3 n3 c3] t)) H (some ⟨w.heap.size, 0, none⟩) 3 [l1, l2, l3] := by
  have hb : Below w.heap.size w (w.alloc (.cells #[.slice A1 n1 c1, .slice A2 n2 c2, .slice A3 n3 c3] t)) := (Below.refl _ _).alloc (Nat.le_refl _) _
  refine ⟨rfl, fun _ => ⟨w.heap.size, 0, rfl, by simp, fun hm => by have := hH _ hm; omega, fun i hi => ?_⟩⟩
  match i with
  | 0 => exact ⟨A1, n1, c1, (Blk.new w t _).cell 0, h1.below hb⟩
  | 1 => exact ⟨A2, n2, c2, (Blk.new w t _).cell 1, h2.below hb⟩
  | 2 => exact ⟨A3, n3, c3, (Blk.new w t _).cell 2, h3.below hb⟩
  | k + 3 => omega
theorem own_off_lt {w : World} {b e s n : Nat} {v : Value} {xs : List Value} (ho : w.ownsRow b e s v n xs) {H : List Nat} (h : ∀ k ∈ H, w.heap.size ≤ k) : Off H v := fun g hg he => by
  have := (ho.lt g he).2
  have := h g hg
  omega
theorem Founds.off_lt {w : World} {B : Nat} {V : List Value} {L : List (List Nat × Int)} (hf : Founds w B V L) {H : List Nat} (h : ∀ k ∈ H, w.heap.size ≤ k) : OffAll H V := by
  intro u hu
  obtain ⟨j, hj, rfl⟩ := List.getElem_of_mem hu
  obtain ⟨a, m, c, h1, h2, h3, h4⟩ := hf.2 (j / 2) (by have := hf.1; omega)
  rcases Nat.mod_two_eq_zero_or_one j with h0 | h0
  · rw [show j / 2 * 2 = j by omega, List.getElem?_eq_getElem hj] at h1
    injection h1 with h1
    rw [h1]
    exact own_off_lt h4 h
  · rw [show j / 2 * 2 + 1 = j by omega, List.getElem?_eq_getElem hj] at h2
    injection h2 with h2
    rw [h2]
    intro g _ h; simp [Value.ownBlock] at h
/-- A piece was made, fed, and written over: only the stream's blocks turned. -/
theorem mv_spoil {wr w1 wc w4 : World} {H H1 : List Nat} {A : Option Addr} {n c : Nat} {xs : List Value} {e : TypeId} (b1 : Below wr.heap.size wr w1) (o1 : w1.ownsRow wr.heap.size e 1 (.slice A n c) n xs) (m1 : Mv w1 wc H H1) (hg : wc.grownBy w4 (Value.slice A n c).ownBlock) : Mv wr w4 H H1 := by
  refine ⟨(b1.mono (Nat.zero_le _)).trans (m1.1.trans ⟨hg.os, hg.tape, hg.output, hg.size, fun k hk => by omega⟩), fun k hk hn => ?_, fun k hk => ?_⟩
  · exact (hg.block k (Nat.lt_of_lt_of_le hk (Nat.le_trans b1.size m1.1.size)) (fun e => by have := (o1.lt k e.symm).1; omega)).trans ((m1.2.1 k (Nat.lt_of_lt_of_le hk b1.size) hn).trans (b1.block k hk))
  · rcases m1.2.2 k hk with h | h
    · exact .inl h
    · exact .inr (Nat.le_trans b1.size h)
theorem stm_spoil {wr w1 wc w4 : World} {H H1 : List Nat} {g : Nat} {l : List Nat} {d : Bool} {A : Option Addr} {n c : Nat} {xs : List Value} {e : TypeId} (hH : ∀ k ∈ H, k < wr.heap.size) (o1 : w1.ownsRow wr.heap.size e 1 (.slice A n c) n xs) (m1 : Mv w1 wc H H1) (s1 : Stm wc H1 g l d) (hg : wc.grownBy w4 (Value.slice A n c).ownBlock) : Stm w4 H1 g l d :=
  stm_keep s1 fun k hk => hg.block k (stm_lt s1 k hk) (fun e => (own_mv o1 m1 (own_off o1 hH)).2 k hk e.symm)
/-- What is told is put behind what was. -/
theorem Told.join {w w3 w2 : World} {H H1 : List Nat} {g g' cap m : Nat} {v : Value} {L T : List (List Nat × Int)} {V U : List Value} {l : List Nat} {d : Bool} (h : Told w H g v L V l d H1 w3) {B : Nat} (f : Founds w3 B U T) (hB : w.heap.size ≤ B) (off : OffAll H1 U) (hm : T.length = m)
    (hown : w2.ownsRow w.heap.size 44 2 (.slice (some ⟨g', 0, none⟩) (L.length + m) cap) (L.length + m) (V ++ U)) (hg : w3.grownBy w2 v.ownBlock) (hl : v.ownBlock = some g' ∨ g' = w3.heap.size) :
    Told w H g (.slice (some ⟨g', 0, none⟩) (L.length + m) cap) (L ++ T) (V ++ U) l d H1 w2 := by
  obtain ⟨⟨h1, h2⟩, h3, h4, h5, h6⟩ := h
  subst hm
  have hk : ∀ k ∈ H1, w2.heap[k]? = w3.heap[k]? := fun k hk => hg.block k (stm_lt h4 k hk) (fun e => h5 k hk e.symm)
  refine ⟨⟨by rw [List.length_append]; exact hown, (h2.append (f.lower hB)).grown h1 (by decide) hg⟩, ⟨h3.1.trans ⟨hg.os, hg.tape, hg.output, hg.size, fun k hk => by omega⟩, fun k hk hn => (hg.block k (Nat.lt_of_lt_of_le hk h3.1.size) (fun e => by have := (h1.lt k e.symm).1; omega)).trans (h3.2.1 k hk hn), h3.2.2⟩, stm_keep h4 hk, ?_, h6.append off⟩
  intro k hk he
  injection he with he
  subst he
  rcases hl with h | h
  · exact h5 g' hk h
  · have := stm_lt h4 g' hk; omega
theorem run_append_zero {P : Program} {w : World} (base : Nat) (t ty e : TypeId) (i : TypeInfo) (size : Nat) (ht : P.underlying t = some (.slice e)) (hi : P.info? e = some i)
    (v : Value) (n c : Nat) (ad : Option Addr) (xs : List Value) (hown : w.ownsRow base e size v n xs) :
    (Builtin.append_ #[t, t] ty #[v, .slice ad 0 c]).run P w = .ok v w := by
  rcases ad with _ | ad
  · exact run_append_owned_nil base t ty e i size ht hi v n c xs hown
  · rcases hown.2 with ⟨rfl, rfl⟩ | ⟨g, cap, cur, rfl, _, _, hnc, _⟩
    · simp [Builtin.append_, run_underlying ht, sizeOf, typeInfo, hi, Builtin.lenOf, Builtin.firstCells, loadCells, loadCellsFrom]
    · simp [Builtin.append_, run_underlying ht, sizeOf, typeInfo, hi, Builtin.lenOf, Builtin.firstCells, hnc, storeCells, loadCells, loadCellsFrom]
theorem wpList_append_zero {P : Program} {w : World} {ops : Array Oper} {rest : List Oper} {o : Oper} {a : Act} {Q : Exit → Act → World → Prop} (hgd : o.guard = none) (s x : Operand) (t : TypeId)
    (ho : o.op = .call { callee := .builtin .append, args := #[s, x], argTypes := #[t, t] })
    (base : Nat) (e : TypeId) (i : TypeInfo) (size : Nat) (ht : P.underlying t = some (.slice e)) (hi : P.info? e = some i)
    (v : Value) (n c : Nat) (ad : Option Addr) (xs : List Value) (hs : a.eval s = v) (hown : w.ownsRow base e size v n xs) (hx : a.eval x = .slice ad 0 c)
    (h : wpList P ops Q rest (a.put o.dst v) w) : wpList P ops Q (o :: rest) a w := by
  refine wpList_plain hgd fun K hK => ?_
  have hrun := run_append_zero (P := P) (w := w) base t o.type e i size ht hi v n c ad xs hown
  unfold Oper.wp
  simp [execOp, ho, resolve, invoke, builtin, hs, hx, hrun, Result.andThen]
  exact hK _ _ h
theorem founds_one {w : World} {B : Nat} {V : List Value} {L : List (List Nat × Int)} (h : Founds w B V L) : ∀ u ∈ V, u.oneCell' = true := by
  intro u hu
  obtain ⟨j, hj, rfl⟩ := List.getElem_of_mem hu
  obtain ⟨a, m, c, h1, h2, h3, h4⟩ := h.2 (j / 2) (by have := h.1; omega)
  rcases Nat.mod_two_eq_zero_or_one j with h0 | h0
  · rw [show j / 2 * 2 = j by omega, List.getElem?_eq_getElem hj] at h1
    injection h1 with h1
    rw [h1]
    rfl
  · rw [show j / 2 * 2 + 1 = j by omega, List.getElem?_eq_getElem hj] at h2
    injection h2 with h2
    rw [h2]
    rfl
namespace Fr
theorem all_dead (b : List Nat) : ∀ f a, dead (all f b a).1 = (match (all f b a).1.getLast? with | some x => x.2 == 71 | none => false) := by
  intro f
  induction f with
  | zero => intro a; rfl
  | succ f ih =>
    intro a
    unfold all
    by_cases h1 : (tkA b a).2.2 = 70
    · rw [if_pos h1]; rfl
    · rw [if_neg h1]
      by_cases h2 : (tkA b a).2.2 = 71
      · rw [if_pos h2]; rfl
      · rw [if_neg h2]
        have h3 : ((tkA b a).2.2 == 71) = false := by rw [beq_eq_false_iff_ne]; exact h2
        dsimp only
        rw [dead_cons, h3, Bool.false_or, ih, List.getLast?_cons]
        cases (all f b (tkA b a).2.1).1.getLast? with
        | none => simp [h3]
        | some x => rfl
theorem dead_last (b : List Nat) {z : Nat} (h : (from_ b 0).1.length = z + 1) : dead (from_ b 0).1 = (((from_ b 0).1.getD z ([], 0)).2 == 71) := by
  have := all_dead b (b.length + 1 - 0) 0
  rw [show all (b.length + 1 - 0) b 0 = from_ b 0 from rfl] at this
  rw [this, List.getLast?_eq_getElem?, h, Nat.add_sub_cancel, List.getD_eq_getElem?_getD, List.getElem?_eq_getElem (by omega)]
  rfl
end Fr
/-- What stands next, whatever it is. -/
theorem fNext_any (g : Nat) (H l : List Nat) (d : Bool) (w : World) (hs : Stm w H g l d) (hl : l.length ≤ 1000000) : Calls Try.prog 29 #[.pointer (some ⟨g, 0, none⟩)] w fun e w' => ∃ A m c e0 ok l' d', e = .returned (.tuple #[.agg #[.slice A m c, .int .i64 e0], .bool ok]) ∧ StmP w H g l' d' w' := by
  by_cases h : d = true ∨ (Fr.tkA l 0).2.2 = 70
  · refine (fNext_none g H l d w hs hl h).mono ?_
    rintro e w' ⟨A, c, e0, rfl, hp⟩
    exact ⟨A, 0, c, e0, false, l, d, rfl, hp⟩
  · obtain rfl : d = false := by
      cases d with
      | true => exact absurd (.inl rfl) h
      | false => rfl
    refine (fNext_one g (Fr.tkA l 0).1.length (Fr.tkA l 0).2.1 H l (Fr.tkA l 0).1 _ _ (Fr.tkA l 0).2.2 w hs hl rfl rfl (fun h1 => h (.inr h1)) rfl rfl).mono ?_
    rintro e w' ⟨A, c, rfl, H1, h1, h2, _⟩
    exact ⟨A, _, c, _, true, _, _, rfl, H1, h1, h2⟩
end Go.Proofs.Ytnokbnobnhkmgaa
