/- Maps in memory: what a row of entries tells, as a function of keys; what a look, a store, a store in place, a deletion do, in every world that has the block. No function of the program is named here. -/
import Derived.Test.YtgpcpjjdneimfaaDoorTurns
import Derived.Maps.Keyed
import Derived.DeepKeys4
import Derived.WideKeyEntry
namespace Go.Proofs.YtgpcpjjdneimfaaDoor
open Go.ChangeShapes Go.WideShapes Go.ChangeAt Go.RowKit Go.MapKept
open Go.Maps (Keyed)
open Go.ChangeMaps (setBlock modify_eq_set)

open Classical in
noncomputable def updE (g : Value → Option Value) (k : Value) (o : Option Value) : Value → Option Value := fun x => if x = k then o else g x
theorem updE_same (g : Value → Option Value) (k : Value) (o : Option Value) : updE g k o k = o := by unfold updE; rw [if_pos rfl]
theorem updE_other (g : Value → Option Value) (k : Value) (o : Option Value) {x : Value} (h : x ≠ k) : updE g k o x = g x := by unfold updE; rw [if_neg h]
/-- The entries es tell g. -/
structure Ent (P : Program) (K : TypeId) (es : Array MapEntry) (clock : Nat) (g : Value → Option Value) : Prop where
  stamped : Stamped es clock
  reads : ∀ x ∈ es.toList, ∃ l, keyOf P K x.key = some l
  tells : ∀ k v, g k = some v ↔ ∃ x ∈ es.toList, x.key = k ∧ x.val = v
theorem setBlock_self {W : World} {b : Nat} {o : Obj} (h : W.heap[b]? = some o) : setBlock W b o = W := by
  have e : W.heap.setIfInBounds b o = W.heap := by
    apply Array.ext_getElem?
    intro i
    rw [Array.getElem?_setIfInBounds]
    split
    · rename_i hi
      subst hi
      rw [h]
      split
      · rfl
      · rename_i hn
        rw [Array.getElem?_eq_none (by omega)] at h
        cases h
    · rfl
  unfold setBlock
  rw [e]
theorem setBlock_heap_same {W : World} {b : Nat} {o : Obj} (h : b < W.heap.size) : (setBlock W b o).heap[b]? = some o := by
  simp [setBlock, h]
theorem setBlock_heap_other {W : World} {b i : Nat} {o : Obj} (h : i ≠ b) : (setBlock W b o).heap[i]? = W.heap[i]? := by
  simp only [setBlock]
  rw [Array.getElem?_setIfInBounds, if_neg (fun e => h e.symm)]
theorem setBlock_size {W : World} {b : Nat} {o : Obj} : (setBlock W b o).heap.size = W.heap.size := by simp [setBlock]
theorem Turns.setBlock {F : Nat → Prop} {w w' : World} {b : Nat} (h : Turns F w w') (o : Obj) (hF : b < w.heap.size → F b) : Turns F w (setBlock w' b o) :=
  ⟨h.os, h.tape, h.output, by rw [setBlock_size]; exact h.size, fun i hi hne => (setBlock_heap_other (by
    rintro rfl
    exact hne (hF hi))).trans (h.block i hi hne)⟩
section
variable {P : Program} {K T E : TypeId} {es : Array MapEntry} {clock : Nat} {g : Value → Option Value} {k : Value} {l : Lit} {b : Nat}
theorem Ent.empty (P : Program) (K : TypeId) : Ent P K #[] 0 (fun _ => none) := ⟨stamped_empty 0, by simp, by simp⟩
theorem Ent.find (L : Keyed P K) (h : Ent P K es clock g) (hk : keyOf P K k = some l) :
    (g k = none ∧ (∀ x ∈ es.toList, x.key ≠ k) ∧ ∀ W : World, (Instr.findKey K k es.toList).run P W = .ok none W) ∨
    ∃ j e0, es.toList[j]? = some e0 ∧ e0.key = k ∧ g k = some e0.val ∧ ∀ W : World, (Instr.findKey K k es.toList).run P W = .ok (some (j, e0.val)) W := by
  by_cases hex : ∃ x ∈ es.toList, x.key = k
  · obtain ⟨e0, hm, he⟩ := hex
    obtain ⟨j, hj⟩ := List.mem_iff_getElem?.1 hm
    refine .inr ⟨j, e0, hj, he, (h.tells k e0.val).2 ⟨e0, hm, he, rfl⟩, fun W => ?_⟩
    rcases L.find W hk es.toList h.reads with ⟨_, h2⟩ | ⟨j', e', h1, h2, h3⟩
    · exact absurd he (h2 e0 hm)
    · have hn : (es.toList.map (·.key)).Nodup := h.stamped.2.2
      have hlt : j < (es.toList.map (·.key)).length := by
        rw [List.length_map]
        exact (List.getElem?_eq_some_iff.1 hj).1
      have hjj : j = j' := (List.getElem?_inj hlt hn).1 (by simp only [List.getElem?_map, hj, h2, Option.map_some, he, h3])
      subst hjj
      rw [hj] at h2
      cases h2
      exact h1
  · have hne : ∀ x ∈ es.toList, x.key ≠ k := fun x hx e => hex ⟨x, hx, e⟩
    refine .inl ⟨?_, hne, fun W => ?_⟩
    · cases hg : g k
      · rfl
      · obtain ⟨x, hx, hxk, _⟩ := (h.tells k _).1 hg
        exact absurd hxk (hne x hx)
    · rcases L.find W hk es.toList h.reads with ⟨h1, _⟩ | ⟨j', e', _, h2, h3⟩
      · exact h1
      · exact absurd h3 (hne e' (List.mem_of_getElem? h2))
theorem Ent.look (L : Keyed P K) (ht : P.underlying T = some (.map K E)) {z : Value} (hz : ∀ W : World, (zeroValue E).run P W = .ok z W) (h : Ent P K es clock g) (hk : keyOf P K k = some l)
    (W : World) (hb : W.heap[b]? = some (.map es clock)) : (Instr.lookup T (.map (some b)) k false).run P W = .ok ((g k).getD z) W := by
  rcases h.find L hk with ⟨h1, _, h3⟩ | ⟨j, e0, h1, h2, h3, h4⟩
  · simp [Instr.lookup, run_underlying ht, MapKept.run_getObj_map hb, L.check W _ hk, h3, hz, h1, Result.andThen]
  · simp [Instr.lookup, run_underlying ht, MapKept.run_getObj_map hb, L.check W _ hk, h4, h3, Result.andThen]
theorem look_none (L : Keyed P K) (ht : P.underlying T = some (.map K E)) {z : Value} (hz : ∀ W : World, (zeroValue E).run P W = .ok z W) (hk : keyOf P K k = some l) (W : World) : (Instr.lookup T (.map none) k false).run P W = .ok z W := by
  rcases L.find W hk [] (by simp) with ⟨f1, _⟩ | ⟨j, e0, _, f2, _⟩
  · simp [Instr.lookup, run_underlying ht, L.check W _ hk, f1, hz, Result.andThen]
  · simp at f2
theorem Ent.push (h : Ent P K es clock g) (hk : keyOf P K k = some l) (hne : ∀ x ∈ es.toList, x.key ≠ k) (v : Value) : Ent P K (es.push ⟨k, v, clock⟩) (clock + 1) (updE g k (some v)) := by
  refine ⟨stamped_push h.stamped hne, fun x hx => ?_, fun k' v' => ?_⟩
  · simp only [Array.toList_push, List.mem_append, List.mem_singleton] at hx
    rcases hx with hx | rfl
    · exact h.reads x hx
    · exact ⟨l, hk⟩
  · by_cases e : k' = k
    · subst e
      rw [updE_same]
      constructor
      · intro hv
        cases hv
        exact ⟨⟨k', v, clock⟩, by simp, rfl, rfl⟩
      · rintro ⟨x, hx, hxk, rfl⟩
        simp only [Array.toList_push, List.mem_append, List.mem_singleton] at hx
        rcases hx with hx | rfl
        · exact absurd hxk (hne x hx)
        · rfl
    · rw [updE_other _ _ _ e, h.tells]
      constructor
      · rintro ⟨x, hx, hh⟩
        exact ⟨x, by simp only [Array.toList_push, List.mem_append]; exact .inl hx, hh⟩
      · rintro ⟨x, hx, hxk, hh⟩
        simp only [Array.toList_push, List.mem_append, List.mem_singleton] at hx
        rcases hx with hx | rfl
        · exact ⟨x, hx, hxk, hh⟩
        · exact absurd hxk.symm e
theorem Ent.other (h : Ent P K es clock g) {j i : Nat} {e0 x : MapEntry} (hj : es.toList[j]? = some e0) (hi : es.toList[i]? = some x) (hne : i ≠ j) : x.key ≠ e0.key := by
  intro e
  have hn : (es.toList.map (·.key)).Nodup := h.stamped.2.2
  have hlt : i < (es.toList.map (·.key)).length := by
    rw [List.length_map]
    exact (List.getElem?_eq_some_iff.1 hi).1
  exact hne ((List.getElem?_inj hlt hn).1 (by simp only [List.getElem?_map, hi, hj, Option.map_some, e]))
/-- An entry's value is another one. -/
theorem Ent.set_ (h : Ent P K es clock g) {j : Nat} {e0 : MapEntry} (hj : es.toList[j]? = some e0) (v : Value) (f : MapEntry → MapEntry) (hf : f e0 = { e0 with val := v }) (hfb : ∀ e, (f e).born = e.born) : Ent P K (es.modify j f) clock (updE g e0.key (some v)) := by
  have hj' : es[j]? = some e0 := by simpa using hj
  have hlist : (es.modify j f).toList = es.toList.set j { e0 with val := v } := by rw [Array.toList_modify, modify_eq_set _ _ _ _ hj, hf]
  have hjl : j < es.toList.length := (List.getElem?_eq_some_iff.1 hj).1
  have who : ∀ x, x ∈ es.toList.set j { e0 with val := v } ↔ x = { e0 with val := v } ∨ (x ∈ es.toList ∧ x.key ≠ e0.key) := by
    intro x
    constructor
    · intro hx
      obtain ⟨i, hi⟩ := List.mem_iff_getElem?.1 hx
      rw [List.getElem?_set] at hi
      split at hi
      · cases hi
        exact .inl rfl
      · rename_i hne
        exact .inr ⟨List.mem_of_getElem? hi, h.other hj hi (fun e => hne e.symm)⟩
    · rintro (rfl | ⟨hx, hk⟩)
      · exact List.mem_iff_getElem?.2 ⟨j, by rw [List.getElem?_set_self hjl]⟩
      · obtain ⟨i, hi⟩ := List.mem_iff_getElem?.1 hx
        refine List.mem_iff_getElem?.2 ⟨i, ?_⟩
        rw [List.getElem?_set_ne, hi]
        rintro rfl
        rw [hj] at hi
        cases hi
        exact hk rfl
  refine ⟨stamped_modify h.stamped _ _ (fun e _ => hfb e) (fun e _ he => by rw [hj'] at he; cases he; rw [hf]), fun x hx => ?_, fun k' v' => ?_⟩
  · rw [hlist, who] at hx
    rcases hx with rfl | ⟨hx, _⟩
    · exact h.reads e0 (List.mem_of_getElem? hj)
    · exact h.reads x hx
  · rw [hlist]
    by_cases e : k' = e0.key
    · subst e
      rw [updE_same]
      constructor
      · intro hv
        cases hv
        exact ⟨_, (who _).2 (.inl rfl), rfl, rfl⟩
      · rintro ⟨x, hx, hxk, rfl⟩
        rcases (who x).1 hx with rfl | ⟨_, hk⟩
        · rfl
        · exact absurd hxk hk
    · rw [updE_other _ _ _ e, h.tells]
      constructor
      · rintro ⟨x, hx, hxk, hh⟩
        exact ⟨x, (who x).2 (.inr ⟨hx, by rw [hxk]; exact e⟩), hxk, hh⟩
      · rintro ⟨x, hx, hxk, hh⟩
        rcases (who x).1 hx with rfl | ⟨hx, _⟩
        · exact absurd hxk.symm e
        · exact ⟨x, hx, hxk, hh⟩
/-- A key has its value from now on. -/
theorem Ent.store (L : Keyed P K) (ht : P.underlying T = some (.map K E)) (h : Ent P K es clock g) (hk : keyOf P K k = some l) (v : Value) :
    ∃ es' clock', Ent P K es' clock' (updE g k (some v)) ∧ (es'.size = if (g k).isSome then es.size else es.size + 1) ∧
      ∀ (b : Nat) (W : World), W.heap[b]? = some (.map es clock) → (Instr.mapUpdate T (.map (some b)) k v).run P W = .ok () (setBlock W b (.map es' clock')) := by
  rcases h.find L hk with ⟨h1, h2, h3⟩ | ⟨j, e0, hj, he, hg, h4⟩
  · refine ⟨_, _, h.push hk h2 v, by simp [h1], fun b W hb => ?_⟩
    simp [Instr.mapUpdate, run_underlying ht, MapKept.run_getObj_map hb, L.check W false hk, h3, MapKept.run_setObj_map _ hb, Result.andThen, setBlock]
  · have hj' : es[j]? = some e0 := by simpa using hj
    refine ⟨es.modify j (fun e => { e with key := k, val := v }), clock, ?_, by simp [hg], fun b W hb => ?_⟩
    · have := h.set_ hj v (fun e => { e with key := k, val := v }) (by simp [he]) (fun _ => rfl)
      rw [he] at this
      exact this
    · simp [Instr.mapUpdate, run_underlying ht, MapKept.run_getObj_map hb, L.check W false hk, h4, hj', he, L.stays W hk, MapKept.run_setObj_map _ hb, Result.andThen, setBlock]
/-- An entry that is there, taken and filled. -/
theorem Ent.entry (L : Keyed P K) (ht : P.underlying T = some (.map K E)) (h : Ent P K es clock g) (hk : keyOf P K k = some l) {v0 : Value} (hv : g k = some v0) :
    ∃ st : Nat, (∀ (b : Nat) (W : World), W.heap[b]? = some (.map es clock) → (Instr.mapEntry T (.map (some b)) k).run P W = .ok (.tuple #[v0, goInt st]) W) ∧
      ∀ v, ∃ es', Ent P K es' clock (updE g k (some v)) ∧ ∀ (b : Nat) (W : World), W.heap[b]? = some (.map es clock) → (Instr.entryStore T (.map (some b)) (goInt st) v).run P W = .ok () (setBlock W b (.map es' clock)) := by
  rcases h.find L hk with ⟨h1, _⟩ | ⟨j, e0, hj, he, hg, h4⟩
  · rw [h1] at hv; cases hv
  · rw [hv] at hg
    cases hg
    have hj' : es[j]? = some e0 := by simpa using hj
    have hsame : es.modify j (fun e => { e with key := k }) = es := by
      apply Array.ext'
      rw [Array.toList_modify, modify_eq_set _ _ _ _ hj]
      have : ({ e0 with key := k } : MapEntry) = e0 := by rw [← he]
      rw [this]
      exact WideElems.set_self _ _ _ hj
    refine ⟨e0.born, fun b W hb => ?_, fun v => ⟨es.modify j (fun e => { e with val := v }), ?_, fun b W hb => ?_⟩⟩
    · have hs : { W with heap := W.heap.setIfInBounds b (Obj.map es clock) } = W := setBlock_self hb
      simp [Instr.mapEntry, run_underlying ht, MapKept.run_getObj_map hb, L.check W false hk, h4, hj', he, L.stays W hk, hsame, MapKept.run_setObj_map _ hb, Result.andThen, hs]
    · have := h.set_ hj v (fun e => { e with val := v }) rfl (fun _ => rfl)
      rw [he] at this
      exact this
    · have hidx : es.findIdx? (fun e => ((e.born : Nat) : Int) == ((e0.born : Nat) : Int)) = some j := by
        rw [WideElems.findIdx_arr]
        exact WideElems.findIdx_born h.stamped.2.1 hj
      simp [Instr.entryStore, MapKept.run_getObj_map hb, asInt, asIntOf, goInt, hidx, MapKept.run_setObj_map _ hb, Result.andThen, setBlock]
/-- A key is gone. -/
theorem Ent.drop (L : Keyed P K) (ht : P.underlying T = some (.map K E)) (h : Ent P K es clock g) (hk : keyOf P K k = some l) (ty : TypeId) :
    ∃ es', Ent P K es' clock (updE g k none) ∧ ∀ (b : Nat) (W : World), W.heap[b]? = some (.map es clock) → (Builtin.delete_ #[T, K] ty #[.map (some b), k]).run P W = .ok (.tuple #[]) (setBlock W b (.map es' clock)) := by
  rcases h.find L hk with ⟨h1, h2, h3⟩ | ⟨j, e0, hj, he, hg, h4⟩
  · refine ⟨es, ⟨h.stamped, h.reads, fun k' v' => ?_⟩, fun b W hb => ?_⟩
    · by_cases e : k' = k
      · subst e
        rw [updE_same, ← h.tells, h1]
      · rw [updE_other _ _ _ e, h.tells]
    · simp [Builtin.delete_, run_underlying ht, MapKept.run_getObj_map hb, L.check W _ hk, h3, MapKept.run_setObj_map _ hb, Result.andThen, setBlock]
  · have hjl : j < es.toList.length := (List.getElem?_eq_some_iff.1 hj).1
    have hlist : (es.eraseIdxIfInBounds j).toList = es.toList.eraseIdx j := by
      unfold Array.eraseIdxIfInBounds
      rw [dif_pos (by simpa using hjl), Array.toList_eraseIdx]
    have who : ∀ x, x ∈ es.toList.eraseIdx j ↔ x ∈ es.toList ∧ x.key ≠ k := by
      intro x
      rw [List.mem_eraseIdx_iff_getElem?]
      constructor
      · rintro ⟨i, hne, hi⟩
        exact ⟨List.mem_of_getElem? hi, by rw [← he]; exact h.other hj hi hne⟩
      · rintro ⟨hx, hxk⟩
        obtain ⟨i, hi⟩ := List.mem_iff_getElem?.1 hx
        refine ⟨i, ?_, hi⟩
        rintro rfl
        rw [hj] at hi
        cases hi
        exact hxk he
    refine ⟨es.eraseIdxIfInBounds j, ⟨stamped_erase h.stamped j, fun x hx => ?_, fun k' v' => ?_⟩, fun b W hb => ?_⟩
    · rw [hlist, who] at hx
      exact h.reads x hx.1
    · rw [hlist]
      by_cases e : k' = k
      · subst e
        rw [updE_same]
        constructor
        · intro hh; cases hh
        · rintro ⟨x, hx, hxk, _⟩
          exact absurd hxk ((who x).1 hx).2
      · rw [updE_other _ _ _ e, h.tells]
        constructor
        · rintro ⟨x, hx, hxk, hh⟩
          exact ⟨x, (who x).2 ⟨hx, by rw [hxk]; exact e⟩, hxk, hh⟩
        · rintro ⟨x, hx, hxk, hh⟩
          exact ⟨x, ((who x).1 hx).1, hxk, hh⟩
    · simp [Builtin.delete_, run_underlying ht, MapKept.run_getObj_map hb, L.check W _ hk, h4, MapKept.run_setObj_map _ hb, Result.andThen, setBlock]
end
end Go.Proofs.YtgpcpjjdneimfaaDoor
