/- Layer 10, the program: rows in memory, sorted by the library. -/
import Derived.Test.YtponelbfddfliaaBoD
namespace Go.Proofs.Ytponelbfddfliaa
open Go.Shelf
open Go.ChangeShapes Go.WideShapes Go.ChangeAt Go.RowKit

theorem plflat (d : Array Pl) : (Go.Sort.flatK plL 4 d).toList = plcells d.toList := by
  apply List.ext_getElem?
  intro t
  by_cases ht : t < d.size * 4
  · have hkd : t / 4 < d.size := by omega
    have hkm : t % 4 < 4 := Nat.mod_lt _ (by omega)
    have e2 : t / 4 * 4 + t % 4 = t := by omega
    have h2 := plcells_at d.toList (t / 4) (t % 4) (by simpa using hkd) hkm
    rw [e2] at h2
    rw [h2]
    have h1 := Go.Sort.get_flatK plL 4 d t ht
    rw [getElem!_pos _ _ (by simpa using ht)] at h1
    rw [Array.getElem?_toList, Array.getElem?_eq_getElem (by simpa using ht), h1]
    have e3 : d.toList.getD (t / 4) default = d[t / 4]! := by
      rw [getElem!_pos d (t / 4) hkd, List.getD_eq_getElem?_getD, Array.getElem?_toList, Array.getElem?_eq_getElem hkd]
      rfl
    rw [e3, List.getElem?_eq_getElem (show t % 4 < (plL d[t / 4]!).length from hkm), getElem!_pos (plL d[t / 4]!) (t % 4) hkm]
    rfl
  · rw [List.getElem?_eq_none (by simp; omega), List.getElem?_eq_none (by rw [plcells_len]; simp; omega)]
theorem plholds {w : World} {g : Nat} {cur : Array Value} {e : TypeId} {L : List Pl} (hb : w.heap[g]? = some (.cells cur e (0, 0))) (ht : cur.toList.take (L.length * 4) = plcells L) : Go.Sort.HoldsK plL 4 w g 0 L.toArray := by
  have hk : Blk w g e cur := hb
  intro j hj
  have hj' : j < L.length * 4 := by simpa using hj
  rw [Nat.zero_add]
  refine ⟨?_, hk.frozen j⟩
  rw [hk.cell]
  have h1 : (cur.toList.take (L.length * 4))[j]? = (plcells L)[j]? := by rw [ht]
  rw [List.getElem?_take_of_lt hj', Array.getElem?_toList] at h1
  rw [h1]
  have h2 := plflat L.toArray
  rw [show L.toArray.toList = L from rfl] at h2
  rw [← h2, Array.getElem?_toList, Array.getElem?_eq_getElem hj, getElem!_pos (Go.Sort.flatK plL 4 L.toArray) j hj]
  rfl
theorem sorted_heap {w : World} {g n : Nat} {os : Array Obj} {cur : Array Value} {e : TypeId} {fr : Nat × Nat} (d : Array Pl) (hb : w.heap[g]? = some (.cells cur e fr)) :
    (Go.Proofs.sortWorldK plL 4 w g 0 n d os).heap[g]? = some (.cells (Go.Sort.putCells id 0 (Go.Sort.flatK plL 4 d) cur) e fr) := by
  have hg : g < w.heap.size := (Array.getElem?_eq_some_iff.1 hb).1
  unfold Go.Proofs.sortWorldK Go.Sort.putRowK
  rw [Go.Sort.heap_grow_old _ _ (by simpa using hg)]
  simp [Go.Sort.putRow, Go.Sort.mapBlock, Go.Sort.ahead, Array.getElem?_modify, hb, Go.Sort.onCells]
theorem sorted_grown {w : World} {g n : Nat} {os : Array Obj} (d : Array Pl) : w.grownBy (Go.Proofs.sortWorldK plL 4 w g 0 n d os) (some g) := by
  unfold Go.Proofs.sortWorldK Go.Sort.putRowK
  refine ⟨rfl, rfl, rfl, by simp, fun k hk hne => ?_⟩
  rw [Go.Sort.heap_grow_old _ _ (by simpa using hk)]
  have : g ≠ k := fun e => hne (by rw [e])
  simp [Go.Sort.putRow, Go.Sort.mapBlock, Go.Sort.ahead, Array.getElem?_modify, this]
theorem sorted_take (cur : Array Value) (d : Array Pl) (h : d.size * 4 ≤ cur.size) : (Go.Sort.putCells id 0 (Go.Sort.flatK plL 4 d) cur).toList.take (d.size * 4) = plcells d.toList := by
  rw [← plflat]
  apply List.ext_getElem?
  intro j
  by_cases hj : j < d.size * 4
  · have hF : j < (Go.Sort.flatK plL 4 d).size := by simpa using hj
    rw [List.getElem?_take_of_lt hj, Array.getElem?_toList, Array.getElem?_toList, Array.getElem?_eq_getElem (xs := Go.Sort.flatK plL 4 d) hF]
    simp [Go.Sort.putCells, hj, show j < cur.size by omega]
  · rw [List.getElem?_take_eq_none (by omega), List.getElem?_eq_none (by simp; omega)]
theorem sorted_own {w : World} {base g cap n : Nat} {e : TypeId} {os : Array Obj} {L : List Pl} {d : Array Pl} (h : w.ownsRow base e 4 (.slice (some ⟨g, 0, none⟩) L.length cap) L.length (plcells L)) (hl : d.size = L.length) :
    (Go.Proofs.sortWorldK plL 4 w g 0 n d os).ownsRow base e 4 (.slice (some ⟨g, 0, none⟩) L.length cap) L.length (plcells d.toList) := by
  refine ⟨by rw [plcells_len]; simp [hl], ?_⟩
  rcases h.2 with ⟨e1, _⟩ | ⟨g', cap', cur, e1, hb, hh, hnc, hcm, hcs, htake⟩
  · cases e1
  · injection e1 with e1 e2 e3
    injection e1 with e1
    injection e1 with e1
    subst e1 e3
    refine .inr ⟨g, cap, _, rfl, hb, sorted_heap d hh, hnc, hcm, by simp [Go.Sort.putCells, hcs], ?_⟩
    rw [← hl]
    exact sorted_take cur d (by rw [hcs, hl]; exact Nat.mul_le_mul_right 4 hnc)
/-- The rows, sorted where they lie. -/
def PlSorted (w : World) (base g cap : Nat) (L : List Pl) (e : Ending) (w' : World) : Prop := e = .returned (.tuple #[]) ∧ ∃ L' : List Pl, L'.Perm L ∧ (L'.Pairwise fun a b => ¬ plcmp b a < 0) ∧ w'.ownsRow base 52 4 (.slice (some ⟨g, 0, none⟩) L.length cap) L.length (plcells L') ∧ w.grownBy w' (some g)
theorem sortPl_any (g cap base : Nat) (L : List Pl) (w : World) (h : w.ownsRow base 52 4 (.slice (some ⟨g, 0, none⟩) L.length cap) L.length (plcells L)) (hn : L.length ≤ 1000) :
    Calls Try.prog 24 #[.slice (some ⟨g, 0, none⟩) L.length cap, .func (.func 25) #[] #[]] w (PlSorted w base g cap L) := by
  have eg : ∀ args w, (callFunc 25 args).run Try.prog w = .ok (.enter 25 args) w := enters_of Try.func25 (by kernel_rfl) rfl
  have hh : ∃ cur, w.heap[g]? = some (.cells cur 52 (0, 0)) ∧ cur.toList.take (L.length * 4) = plcells L := by
    rcases h.2 with ⟨e1, _⟩ | ⟨g', cap', cur, e1, hb, hh, hnc, hcm, hcs, htake⟩
    · cases e1
    · injection e1 with e1 e2 e3
      injection e1 with e1
      injection e1 with e1
      subst e1 e3
      exact ⟨cur, hh, htake⟩
  obtain ⟨cur, hb, ht⟩ := hh
  have hcmp : Go.Proofs.CmpLays Try.prog 25 #[] plL 4 plcmp g 0 L.toArray.size w := fun _ _ _ _ x y => closure_any x y _
  have hcon := AnyQ.slices_SortFunc sortPl 4 Try.isAgg52 Try.sizeOf52 plL (fun _ => rfl) (fun x v hv => plcells_one [x] v (by simpa [plcells] using hv)) plcmp plcmp_swo 25 #[] g 0 cap L.toArray w eg hcmp (plholds hb ht) (Array.getElem?_eq_some_iff.1 hb).1 (by simp; omega)
  change Calls Try.prog 24 _ _ _ at hcon
  refine hcon.mono ?_
  rintro e w' ⟨rfl, d', n, os, hp, hs, rfl⟩
  have hsz : d'.size = L.length := hp.1
  refine ⟨rfl, d'.toList, ?_, ?_, sorted_own h hsz, sorted_grown d'⟩
  · have := hp.2.2
    rw [← hp.1] at this
    have e : List.take L.length d'.toList = d'.toList := List.take_of_length_le (by simp [hsz])
    simpa [hsz, e] using this
  · rw [List.pairwise_iff_getElem]
    intro i j hi hj hij
    have h1 : i < d'.size := by simpa using hi
    have h2 : j < d'.size := by simpa using hj
    have h3 := hs i j (Nat.zero_le _) hij (by have : L.toArray.size = L.length := rfl; omega)
    rw [getElem!_pos d' i h1, getElem!_pos d' j h2] at h3
    exact of_decide_eq_false h3
end Go.Proofs.Ytponelbfddfliaa
