/- How a statement's arguments are opened: what rows of slices of bytes that came in read as. (Over Mem: for stages from 2 on.) -/
import Derived.Test.YtnokbnobnhkmgaaOpenY
namespace Go.Proofs.Ytnokbnobnhkmgaa
open Go.ChangeShapes Go.WideShapes Go.ChangeAt Go.RowKit

theorem bytes_mk {W : World} {a : Option Addr} {len : Nat} {zs : List Int} (hl : len ≤ zs.length) (hwz : ∀ n ∈ zs, (Lit.int .u8 n).wf = true) (ha : a = none → len = 0)
    (hc : ∀ x, a = some x → ∀ i, i < len → W.cell? (x.add i) = some (.int .u8 (zs.getD i 0))) : Bytes W W.heap.size a len ((zs.take len).map Int.toNat) := by
  refine ⟨by simp; omega, fun y hy => ?_, fun h0 => ?_⟩
  · rw [List.mem_map] at hy
    obtain ⟨n, hn, rfl⟩ := hy
    have := byte_wf (hwz n (List.mem_of_mem_take hn))
    omega
  · rcases a with _ | x
    · exact absurd (ha rfl) (by omega)
    have hc0 := hc x rfl 0 h0
    have hspot : x.spot = none := by simpa [Addr.add] using World.cell?_spot hc0
    obtain ⟨b, off, spot⟩ := x
    simp only at hspot
    subst hspot
    refine ⟨b, off, rfl, ?_, fun i hi => ?_⟩
    · have := block_lt_of_cell hc0
      rw [add_at] at this
      exact this
    · have := hc _ rfl i hi
      rw [add_at] at this
      rw [this]
      have hw := byte_wf (hwz (zs.getD i 0) (by rw [List.getD_eq_getElem?_getD, List.getElem?_eq_getElem (by omega)]; exact List.getElem_mem (by omega)))
      have e : ((zs.take len).map Int.toNat).getD i 0 = (zs.getD i 0).toNat := by
        rw [List.getD_eq_getElem?_getD, List.getD_eq_getElem?_getD, List.getElem?_map, List.getElem?_take_of_lt hi, List.getElem?_eq_getElem (by omega)]
        rfl
      rw [e, Int.toNat_of_nonneg hw.1]

/-- What is known of a slice of rows of bytes that came in. -/
theorem open_rows {H : Type} {enc : TypeId × Value → H} {W : World} {base : Nat} {a : Option Addr} {len cap : Nat} {d : DataW H} {p : List MemPlace} {hd : Bool}
    (h : DataW.Trod enc Try.prog W base (fun _ => true) hd 22 (.slice a len cap) d p) : ∃ ls : List (List Nat), RowsOf W W.heap.size a len ls ∧ len ≤ cap ∧ cap ≤ maxLen := by
  obtain ⟨fuel, hf⟩ := h
  rcases Deep.open_int_rows Try.underlying22 Try.underlying24 Try.underlying5 (by kernel_rfl) (by kernel_rfl) hf with ⟨hcs, _⟩ | ⟨x, l, c, A, L, C, Z, hcs, _, hl, hm, _, hr⟩
  · simp [Value.cells] at hcs
    obtain ⟨rfl, rfl, rfl⟩ := hcs
    exact ⟨[], ⟨rfl, fun h0 => absurd h0 (by omega)⟩, by omega, by omega⟩
  · simp [Value.cells] at hcs
    obtain ⟨rfl, rfl, rfl⟩ := hcs
    refine ⟨(List.range len).map fun r => ((Z r).take (L r)).map Int.toNat, ⟨by simp, fun h0 => ?_⟩, hl, hm⟩
    have hc0 := (hr 0 (by omega)).1
    have hspot : x.spot = none := by simpa [Addr.add] using World.cell?_spot hc0
    obtain ⟨b, off, spot⟩ := x
    simp only at hspot
    subst hspot
    refine ⟨b, off, rfl, ?_, fun i hi => ?_⟩
    · have := block_lt_of_cell hc0
      rw [add_at] at this
      exact this
    · obtain ⟨h1, h2, h3, h4, h5, h6, h7⟩ := hr i (by omega)
      rw [add_at] at h1
      have hmx : maxLen = 9223372036854775807 := rfl
      refine ⟨A i, L i, C i, h1, by omega, ?_⟩
      have e : ((List.range len).map fun r => ((Z r).take (L r)).map Int.toNat).getD i [] = ((Z i).take (L i)).map Int.toNat := by
        rw [List.getD_eq_getElem?_getD, List.getElem?_map, List.getElem?_range hi]
        rfl
      rw [e]
      exact bytes_mk (by omega) h5 (fun ha => by have := h6 ha; omega) (fun y hy j hj => (h7 y hy).2 j (by omega))
end Go.Proofs.Ytnokbnobnhkmgaa
