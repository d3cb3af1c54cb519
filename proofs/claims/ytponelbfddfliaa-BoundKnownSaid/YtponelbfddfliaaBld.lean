/- strings.Builder: a builder that a call has made, written on, and told. -/
import Derived.Test.YtponelbfddfliaaRefP
import Derived.Shelf.Strings.BuilderK
namespace Go.Proofs.Ytponelbfddfliaa
open Go.Shelf
open Go.ChangeShapes Go.WideShapes Go.ChangeAt Go.RowKit

def lay_ren : Go.Shelf.Ren := ⟨fun | 169 => 58 | n => n, fun | 70 => 88 | 9 => 9 | 0 => 0 | 72 => 90 | 37 => 46 | 127 => 117 | 3 => 3 | 5 => 5 | n => n, fun | n => n⟩
theorem lay_text : Go.Proofs.Lays.n169 Try.prog lay_ren := {
  mixed := by kernel_rfl
  f169 := Try.func58.trans (congrArg some (by kernel_rfl))
  t0 := Try.underlying0
  a0 := Try.isAgg0
  z0 := Try.sizeOf0
  v0 := Try.zeroValue0
  t3 := Try.underlying3
  a3 := Try.isAgg3
  z3 := Try.sizeOf3
  v3 := Try.zeroValue3
  t9 := Try.underlying9
  a9 := Try.isAgg9
  z9 := Try.sizeOf9
  v9 := Try.zeroValue9
  t37 := Try.underlying46
  a37 := Try.isAgg46
  z37 := Try.sizeOf46
  v37 := Try.zeroValue46
  t70 := Try.underlying88
  a70 := Try.isAgg88
  z70 := Try.sizeOf88
  v70 := Try.zeroValue88
  t72 := Try.underlying90
  a72 := Try.isAgg90
  z72 := Try.sizeOf90
  v72 := Try.zeroValue90
  t127 := Try.underlying117
  a127 := Try.isAgg117
  z127 := Try.sizeOf117
  v127 := Try.zeroValue117 }
theorem lay_more : Builder.Extra Try.prog lay_ren := {
  sizeBuilder := by kernel_rfl
  liesBuilder := by kernel_rfl
  t5 := Try.underlying5
  a5 := Try.isAgg5
  z5 := Try.sizeOf5
  v5 := Try.zeroValue5
  infoByte := by kernel_rfl
  cellsByte := by kernel_rfl
  sizeByte := by kernel_rfl
  neB5 := by decide }
/-- The builder in block b holds the bytes l. -/
def Bd (w : World) (B b : Nat) (l : List Nat) : Prop := (∀ x ∈ l, x < 256) ∧ Lib.IsBuilder 90 5 B b (u8s l) w
/-- What stands beside the builder. -/
abbrev Kept (b : Nat) (w w' : World) : Prop := Lib.OthersKept 5 (some b) w w'
theorem Bd.new (w : World) : Bd (w.alloc (.cells #[.pointer none, .slice none 0 0] 90)) w.heap.size w.heap.size [] := ⟨by simp, Lib.fresh_isBuilder _ _ w⟩
theorem u8s_cells (l : List Nat) (h : ∀ x ∈ l, x < 256) : Lib.byteCells (l.map UInt8.ofNat) = u8s l := by
  unfold Lib.byteCells u8s
  rw [List.map_map]
  apply List.map_congr_left
  intro x hx
  have := h x hx
  simp [Nat.mod_eq_of_lt this]
theorem bldText_any (B b : Nat) (l : List Nat) (w : World) (h : Bd w B b l) (hBw : B ≤ w.heap.size) :
    Calls Try.prog 58 #[.pointer (some ⟨b, 0, none⟩)] w fun e w' => ∃ T : ByteArray, e = .returned (.string T) ∧ nums T = l ∧ T.size = l.length ∧ Below B w w' := by
  have h1 : Lib.IsBuilderF 90 5 B b (Lib.byteCells (l.map UInt8.ofNat)) w := by
    rw [u8s_cells l h.1]
    exact Lib.IsBuilderF.of h.2
  have hc : Calls Try.prog 58 #[.pointer (some ⟨b, 0, none⟩)] w fun e w' => e = .returned (.string ⟨(l.map UInt8.ofNat).toArray⟩) ∧ (Lib.IsBuilderF 90 5 B b (Lib.byteCells (l.map UInt8.ofNat)) w' ∧ Below B w w' ∧ Lib.OthersKept 5 (some b) w w') :=
    Any.Builder_String_any_k lay_text lay_more B b (l.map UInt8.ofNat) w h1 hBw
  refine hc.mono ?_
  rintro e w' ⟨rfl, _, hb, _⟩
  refine ⟨_, rfl, ?_, by simp [ByteArray.size], hb⟩
  unfold nums
  rw [List.map_map]
  conv => rhs; rw [← List.map_id l]
  apply List.map_congr_left
  intro x hx
  have := h.1 x hx
  simp [Nat.mod_eq_of_lt this]
end Go.Proofs.Ytponelbfddfliaa
