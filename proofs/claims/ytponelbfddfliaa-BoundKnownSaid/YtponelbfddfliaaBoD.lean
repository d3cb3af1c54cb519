/- Layer 10, the program: slices.SortFunc at its rows, by the library's contract. -/
import Derived.Test.YtponelbfddfliaaBoC
import Derived.Test.YtponelbfddfliaaBoO
import Derived.Shelf.SlSortCmp.WholeK
namespace Go.Proofs.Ytponelbfddfliaa
open Go.Shelf
open Go.ChangeShapes Go.WideShapes Go.ChangeAt Go.RowKit

def sortPl_ren : Go.Shelf.Ren := ⟨fun | 6 => 24 | 15 => 43 | 14 => 42 | 28 => 70 | 29 => 71 | 20 => 62 | 21 => 63 | 22 => 64 | 23 => 65 | 24 => 66 | 25 => 67 | 26 => 68 | 27 => 69 | 46 => 77 | 47 => 78 | 48 => 79 | 49 => 80 | 50 => 81 | 57 => 86 | n => n, fun | 22 => 50 | 24 => 52 | 25 => 55 | 3 => 3 | 39 => 81 | 0 => 0 | 53 => 104 | 55 => 106 | 4 => 4 | 46 => 97 | 45 => 96 | 50 => 101 | 5 => 5 | 9 => 9 | 66 => 118 | 70 => 122 | 76 => 129 | 77 => 130 | n => n, fun | n => n⟩
theorem sortPl : Go.Proofs.SlLaysF0.n6 Try.prog sortPl_ren := {
  mixed := by kernel_rfl
  f6 := ⟨Try.f24.name, by decide, Try.func24.trans (congrArg some (by kernel_rfl))⟩
  f14 := ⟨Try.f42.name, by decide, Try.func42.trans (congrArg some (by kernel_rfl))⟩
  f15 := Try.func43.trans (congrArg some (by kernel_rfl))
  f20 := ⟨Try.f62.name, by decide, Try.func62.trans (congrArg some (by kernel_rfl))⟩
  f21 := ⟨Try.f63.name, by decide, Try.func63.trans (congrArg some (by kernel_rfl))⟩
  f22 := ⟨Try.f64.name, by decide, Try.func64.trans (congrArg some (by kernel_rfl))⟩
  f23 := ⟨Try.f65.name, by decide, Try.func65.trans (congrArg some (by kernel_rfl))⟩
  f24 := ⟨Try.f66.name, by decide, Try.func66.trans (congrArg some (by kernel_rfl))⟩
  f25 := ⟨Try.f67.name, by decide, Try.func67.trans (congrArg some (by kernel_rfl))⟩
  f26 := ⟨Try.f68.name, by decide, Try.func68.trans (congrArg some (by kernel_rfl))⟩
  f27 := ⟨Try.f69.name, by decide, Try.func69.trans (congrArg some (by kernel_rfl))⟩
  f28 := Try.func70.trans (congrArg some (by kernel_rfl))
  f29 := Try.func71.trans (congrArg some (by kernel_rfl))
  f46 := ⟨Try.f77.name, by decide, Try.func77.trans (congrArg some (by kernel_rfl))⟩
  f47 := Try.func78.trans (congrArg some (by kernel_rfl))
  f48 := Try.func79.trans (congrArg some (by kernel_rfl))
  f49 := ⟨Try.f80.name, by decide, Try.func80.trans (congrArg some (by kernel_rfl))⟩
  f50 := ⟨Try.f81.name, by decide, Try.func81.trans (congrArg some (by kernel_rfl))⟩
  f57 := ⟨Try.f86.name, by decide, Try.func86.trans (congrArg some (by kernel_rfl))⟩
  t0 := Try.underlying0
  a0 := Try.isAgg0
  z0 := Try.sizeOf0
  v0 := Try.zeroValue0
  t3 := Try.underlying3
  a3 := Try.isAgg3
  z3 := Try.sizeOf3
  v3 := Try.zeroValue3
  t4 := Try.underlying4
  a4 := Try.isAgg4
  z4 := Try.sizeOf4
  v4 := Try.zeroValue4
  t5 := Try.underlying5
  a5 := Try.isAgg5
  z5 := Try.sizeOf5
  v5 := Try.zeroValue5
  t9 := Try.underlying9
  a9 := Try.isAgg9
  z9 := Try.sizeOf9
  v9 := Try.zeroValue9
  t22 := Try.underlying50
  a22 := Try.isAgg50
  z22 := Try.sizeOf50
  v22 := Try.zeroValue50
  t25 := Try.underlying55
  a25 := Try.isAgg55
  z25 := Try.sizeOf55
  v25 := Try.zeroValue55
  t39 := Try.underlying81
  a39 := Try.isAgg81
  z39 := Try.sizeOf81
  v39 := Try.zeroValue81
  t45 := Try.underlying96
  a45 := Try.isAgg96
  z45 := Try.sizeOf96
  v45 := Try.zeroValue96
  t46 := Try.underlying97
  a46 := Try.isAgg97
  z46 := Try.sizeOf97
  v46 := Try.zeroValue97
  t50 := Try.underlying101
  a50 := Try.isAgg101
  z50 := Try.sizeOf101
  v50 := Try.zeroValue101
  t53 := Try.underlying104
  a53 := Try.isAgg104
  z53 := Try.sizeOf104
  v53 := Try.zeroValue104
  t55 := Try.underlying106
  a55 := Try.isAgg106
  z55 := Try.sizeOf106
  v55 := Try.zeroValue106
  t66 := Try.underlying118
  a66 := Try.isAgg118
  z66 := Try.sizeOf118
  v66 := Try.zeroValue118
  t70 := Try.underlying122
  a70 := Try.isAgg122
  z70 := Try.sizeOf122
  v70 := Try.zeroValue122
  t76 := Try.underlying129
  a76 := Try.isAgg129
  z76 := Try.sizeOf129
  v76 := Try.zeroValue129
  t77 := Try.underlying130
  a77 := Try.isAgg130
  z77 := Try.sizeOf130
  v77 := Try.zeroValue130 }
set_option maxRecDepth 100000 in
set_option maxHeartbeats 1000000 in
theorem isNaN_string (a : ByteArray) (w : World) : Calls Try.prog 44 #[.string a] w fun e w' => e = .returned (.bool false) ∧ w' = w := by
  have h1 : (a.toList != a.toList) = false := by simp
  go_enter Try.func44, Try.ntmps44
  go_wp2_with fail
  go_ret
  exact ⟨rfl, rfl⟩
set_option maxRecDepth 100000 in
set_option maxHeartbeats 1000000 in
theorem cmp_string (a b : ByteArray) (w : World) :
    Calls Try.prog 26 #[.string a, .string b] w fun e w' => e = .returned (.int .i64 (Ky.cmp (nums a) (nums b))) ∧ w' = w := by
  have hl := text_cmp a b
  have hr := text_cmp b a
  rw [Ky.cmp_swap (nums a) (nums b)] at hr
  rcases Ky.cmp_three (nums a) (nums b) with h | h | h
  · rw [h] at hl hr ⊢
    replace hl : Op.bytesLess a.toList b.toList = true := by rw [hl]; rfl
    replace hr : Op.bytesLess b.toList a.toList = false := by rw [hr]; rfl
    go_enter Try.func26, Try.ntmps26
    go_wp2_with fail
    refine (isNaN_string a w).mono ?_
    rintro e w1 ⟨rfl, rfl⟩
    go_wp2_with fail
    refine (isNaN_string b w1).mono ?_
    rintro e w2 ⟨rfl, rfl⟩
    go_wp2_with fail
    go_ret
    exact ⟨rfl, rfl⟩
  · rw [h] at hl hr ⊢
    replace hl : Op.bytesLess a.toList b.toList = false := by rw [hl]; rfl
    replace hr : Op.bytesLess b.toList a.toList = false := by rw [hr]; rfl
    have hq : (a.toList == b.toList) = true := by rw [nums_inj (Ky.cmp_eq h)]; simp
    go_enter Try.func26, Try.ntmps26
    go_wp2_with fail
    refine (isNaN_string a w).mono ?_
    rintro e w1 ⟨rfl, rfl⟩
    go_wp2_with fail
    refine (isNaN_string b w1).mono ?_
    rintro e w2 ⟨rfl, rfl⟩
    go_wp2_with fail
    go_ret
    exact ⟨rfl, rfl⟩
  · rw [h] at hl hr ⊢
    replace hl : Op.bytesLess a.toList b.toList = false := by rw [hl]; rfl
    replace hr : Op.bytesLess b.toList a.toList = true := by rw [hr]; rfl
    have hq := text_ne (a := a) (b := b) (by intro e; rw [e, Ky.cmp_refl] at h; simp at h)
    go_enter Try.func26, Try.ntmps26
    go_wp2_with fail
    refine (isNaN_string a w).mono ?_
    rintro e w1 ⟨rfl, rfl⟩
    go_wp2_with fail
    refine (isNaN_string b w1).mono ?_
    rintro e w2 ⟨rfl, rfl⟩
    go_wp2_with fail
    go_ret
    exact ⟨rfl, rfl⟩
/-- A pane and the row that it is sorted by. -/
structure Pl where
  r : ByteArray
  p : Pn
instance : Inhabited Pl := ⟨⟨⟨#[]⟩, default⟩⟩
def plL (x : Pl) : List Value := [.string x.r, .string x.p.k, .int .i64 x.p.s, .int .i64 x.p.e]
def plcells (l : List Pl) : List Value := l.flatMap plL
theorem plcells_len (l : List Pl) : (plcells l).length = l.length * 4 := by
  induction l with
  | nil => rfl
  | cons p l ih => simp [plcells, plL] at ih ⊢; omega
theorem plcells_snoc (l : List Pl) (p : Pl) : plcells (l ++ [p]) = plcells l ++ plL p := by simp [plcells]
theorem plcells_at (l : List Pl) (i j : Nat) (h : i < l.length) (hj : j < 4) : (plcells l)[i * 4 + j]? = (plL (l.getD i default))[j]? := by
  induction l generalizing i with
  | nil => simp at h
  | cons p l ih =>
    have e : plcells (p :: l) = plL p ++ plcells l := by simp [plcells]
    rw [e]
    cases i with
    | zero => rw [List.getElem?_append_left (by simp [plL]; omega)]; simp
    | succ i =>
      rw [List.getElem?_append_right (by simp [plL]; omega)]
      have e2 : (i + 1) * 4 + j - (plL p).length = i * 4 + j := by simp [plL]; omega
      rw [e2, ih i (by simpa using h)]
      simp
theorem plcells_one (l : List Pl) : ∀ u ∈ plcells l, u.oneCell' = true := by
  intro u hu
  obtain ⟨r, _, hr⟩ := List.mem_flatMap.1 hu
  simp only [plL, List.mem_cons, List.not_mem_nil, or_false] at hr
  rcases hr with rfl | rfl | rfl | rfl <;> rfl
def plcmp (x y : Pl) : Int := Ky.cmp (nums x.r) (nums y.r)
theorem plcmp_swo : Go.Sort.SWO (Go.Proofs.ltOf plcmp) where
  irrefl x := by unfold Go.Proofs.ltOf plcmp; rw [Ky.cmp_refl]; rfl
  trans x y z h1 h2 := by
    unfold Go.Proofs.ltOf plcmp at *
    rw [decide_eq_true_eq] at *
    have a : Ky.cmp (nums x.r) (nums y.r) = -1 := by rcases Ky.cmp_three (nums x.r) (nums y.r) with h | h | h <;> omega
    rw [cmp_less a (by omega)]
    decide
  ntrans x y z h1 h2 := by
    unfold Go.Proofs.ltOf plcmp at *
    rw [decide_eq_false_iff_not] at *
    intro h3
    have a : Ky.cmp (nums x.r) (nums z.r) = -1 := by rcases Ky.cmp_three (nums x.r) (nums z.r) with h | h | h <;> omega
    have b := cmp_less (z := nums y.r) a (by rw [Ky.cmp_swap]; omega)
    omega
set_option maxRecDepth 100000 in
set_option maxHeartbeats 1000000 in
/-- The function that the rows are sorted by: in whatever world. -/
theorem closure_any (x y : Pl) (W : World) : Calls Try.prog 25 #[.agg #[.string x.r, .string x.p.k, .int .i64 x.p.s, .int .i64 x.p.e], .agg #[.string y.r, .string y.p.k, .int .i64 y.p.s, .int .i64 y.p.e]] W fun e w' => e = .returned (.int .i64 (plcmp x y)) ∧ ∃ q os', w' = Go.Sort.grow (W.drewN q) os' := by
  have hcon := fun W' => cmp_string x.r y.r W'
  rw [show Ky.cmp (nums x.r) (nums y.r) = plcmp x y from rfl] at hcon
  generalize plcmp x y = r at hcon ⊢
  go_enter Try.func25, Try.ntmps25
  go_wp2_with (go_at_call 26; refine (hcon _).mono ?_; rintro e w' ⟨rfl, rfl⟩)
  go_ret
  exact ⟨rfl, 0, _, by rw [Go.Sort.alloc_eq_grow, Go.Sort.alloc_eq_grow, Go.Sort.grow_grow]; rfl⟩
end Go.Proofs.Ytponelbfddfliaa
