/- Layer 8, the program: arrays of nine numbers, compared. -/
import Derived.Test.YtognlgklepgemaaGreatRp
import Derived.Laws.StructEq
import Derived.ChangeKeysEq
namespace Go.Proofs.YtognlgklepgemaaGreat
open Go.ChangeShapes Go.WideShapes Go.ChangeAt Go.RowKit

theorem arr_loop {P : Program} (d : Nat) (elem : TypeId) (xs ys : Array Value) (a b : Nat → Int) (is : List Nat)
    (hx : ∀ i ∈ is, ∀ W : World, (part elem xs (i * 1)).run P W = .ok (.int .u64 (a i)) W) (hy : ∀ i ∈ is, ∀ W : World, (part elem ys (i * 1)).run P W = .ok (.int .u64 (b i)) W)
    (he : ∀ (p q : Int) (W : World), (Op.equalIn d elem (.int .u64 p) (.int .u64 q)).run P W = .ok (p == q) W) (w : World) :
    (forIn is ((none : Option Bool), ()) (fun i _ => do
      if (!(← Op.equalIn d elem (← part elem xs (i * 1)) (← part elem ys (i * 1)))) = true then return ForInStep.done (some false, ()) else return ForInStep.yield (none, ()))  : Sem (Option Bool × Unit)).run P w = .ok ((if is.all (fun i => a i == b i) then none else some false), ()) w := by
  induction is with
  | nil => simp
  | cons i is ih =>
    rw [List.forIn_cons]
    simp only [Sem.run_bind, hx i (List.mem_cons_self ..), hy i (List.mem_cons_self ..), Result.andThen_ok, he]
    by_cases h : a i == b i
    · simp only [h, Bool.not_true, Bool.false_eq_true, if_false, Sem.run_pure, Result.andThen_ok, List.all_cons, Bool.true_and]
      exact ih (fun j hj => hx j (List.mem_cons_of_mem _ hj)) (fun j hj => hy j (List.mem_cons_of_mem _ hj))
    · simp [h]
theorem arr_equal {P : Program} (d : Nat) (t elem : TypeId) (len : Nat) (xs ys : Array Value) (a b : Nat → Int)
    (hS : P.underlying t = some (.array len elem)) (hs : ∀ W : World, (sizeOf elem).run P W = .ok 1 W)
    (hx : ∀ i ∈ List.range' 0 len, ∀ W : World, (part elem xs (i * 1)).run P W = .ok (.int .u64 (a i)) W) (hy : ∀ i ∈ List.range' 0 len, ∀ W : World, (part elem ys (i * 1)).run P W = .ok (.int .u64 (b i)) W)
    (he : ∀ (p q : Int) (W : World), (Op.equalIn d elem (.int .u64 p) (.int .u64 q)).run P W = .ok (p == q) W) (w : World) :
    (Op.equalIn (d + 1) t (.agg xs) (.agg ys)).run P w = .ok ((List.range' 0 len).all (fun i => a i == b i)) w := by
  have hl := arr_loop d elem xs ys a b (List.range' 0 len) hx hy he w
  simp only [Op.equalIn, Sem.run_bind, run_underlying hS, Result.andThen_ok, hs]
  simp only [Std.Legacy.Range.forIn_eq_forIn_range', Std.Legacy.Range.size, Nat.sub_zero, Nat.add_sub_cancel, Nat.div_one]
  rw [hl, Result.andThen_ok]
  cases (List.range' 0 len).all (fun i => a i == b i) <;> simp
set_option maxRecDepth 100000 in
theorem nine_equal (a b : List Int) (ha : a.length = 9) (hb : b.length = 9) (w : World) :
    (Op.equalIn 10000 97 (.agg (a.map (Value.int .u64)).toArray) (.agg (b.map (Value.int .u64)).toArray)).run Tryz.prog w = .ok (a == b) w := by
  have hS : Tryz.prog.underlying 97 = some (.array 9 24) := by kernel_rfl
  have hU : Tryz.prog.underlying 24 = some (.int .u64) := by kernel_rfl
  have hK : Tryz.prog.plainKey 24 = true := by kernel_rfl
  have hs : ∀ W : World, (sizeOf 24).run Tryz.prog W = .ok 1 W := fun _ => by kernel_rfl
  have hp : ∀ l : List Int, l.length = 9 → ∀ i ∈ List.range' 0 9, ∀ W : World, (part 24 (l.map (Value.int .u64)).toArray (i * 1)).run Tryz.prog W = .ok (.int .u64 (l.getD i 0)) W := by
    intro l hl i hi W
    have h9 : i < 9 := by simpa using hi
    refine run_part_plain W hK ?_
    rw [Nat.mul_one, List.getElem?_toArray, List.getElem?_map, List.getD_eq_getElem?_getD, List.getElem?_eq_getElem (by omega)]
    rfl
  rw [arr_equal 9999 97 24 9 _ _ (fun i => a.getD i 0) (fun i => b.getD i 0) hS hs (hp a ha) (hp b hb) (fun p q W => run_equalIn_int W 9998 _ _ _ p q hU) w]
  congr 1
  rw [Bool.eq_iff_iff, List.all_eq_true, beq_iff_eq]
  constructor
  · intro h
    apply List.ext_getElem (by omega)
    intro i h1 h2
    have := h i (by simp; omega)
    rw [beq_iff_eq, List.getD_eq_getElem?_getD, List.getD_eq_getElem?_getD, List.getElem?_eq_getElem h1, List.getElem?_eq_getElem h2] at this
    exact this
  · rintro rfl i _
    simp
end Go.Proofs.YtognlgklepgemaaGreat
