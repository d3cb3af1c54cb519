/- Layer 5's reference: a value put into an aggregate. -/
import Derived.Test.YtaahlepgmcgcfaaRefJoin
namespace Go.Proofs.Ytaahlepgmcgcfaa
open Go.ChangeShapes Go.WideShapes Go.ChangeAt Go.RowKit

/-- An aggregate, or the one that was and the error 30. -/
def PutE (w : World) (a : Ag.A) (o : Option Ag.A) (e : Ending) (w' : World) : Prop := Below w.heap.size w w' ∧ match o with
  | none => e = .returned (.tuple #[aggV a, .int .i64 30])
  | some b => e = .returned (.tuple #[aggV b, .int .i64 0])
theorem blk_alloc {w : World} {b T : Nat} {cs : Array Value} (h : Blk w b T cs) (o : Obj) : Blk (w.alloc o) b T cs := h.below ((Below.refl _ _).alloc (Nat.le_refl _) o) h.lt
theorem aggs_two (w : World) (T : TypeId) (a b : Ag.A) (ha : aggOk a) (hb : aggOk b) (g : Nat) (hg : g = w.heap.size) :
    Aggs (w.alloc (.cells #[.int .i64 a.c, .int .i64 a.s, .int .i64 a.lo, .int .i64 a.hi, .int .i64 b.c, .int .i64 b.s, .int .i64 b.lo, .int .i64 b.hi] T)) (g + 1) (some ⟨g, 0, none⟩) 2 [a, b] := by
  have hk := Blk.new w T #[.int .i64 a.c, .int .i64 a.s, .int .i64 a.lo, .int .i64 a.hi, .int .i64 b.c, .int .i64 b.s, .int .i64 b.lo, .int .i64 b.hi]
  subst hg
  refine ⟨rfl, by intro p hp; simp at hp; rcases hp with rfl | rfl <;> assumption, fun _ => ⟨w.heap.size, 0, rfl, by omega, fun i hi => ?_⟩⟩
  have h01 : i = 0 ∨ i = 1 := by omega
  rcases h01 with rfl | rfl
  · exact ⟨hk.cell 0, hk.cell 1, hk.cell 2, hk.cell 3⟩
  · exact ⟨hk.cell 4, hk.cell 5, hk.cell 6, hk.cell 7⟩
set_option maxRecDepth 100000 in
set_option maxHeartbeats 2000000 in
theorem refPut_any (a : Ag.A) (v : Int) (w : World) (ha : aggOk a) (hv : i64ok v) :
    Calls Try.prog 41 #[.agg #[.int .i64 a.c, .int .i64 a.s, .int .i64 a.lo, .int .i64 a.hi], .int .i64 v] w (PutE w a (Ag.put a v)) := by
  have hone : aggOk (Ag.one v) := ⟨⟨by show (-9223372036854775808 : Int) ≤ 1; omega, by show (1 : Int) ≤ 9223372036854775807; omega⟩, hv, hv, hv⟩
  have hb0 := Blk.new w 55 #[.int .i64 a.c, .int .i64 a.s, .int .i64 a.lo, .int .i64 a.hi]
  have hb1 := Blk.new (w.alloc (.cells #[.int .i64 a.c, .int .i64 a.s, .int .i64 a.lo, .int .i64 a.hi] 55)) 55 #[.int .i64 0, .int .i64 0, .int .i64 0, .int .i64 0]
  have hb2 := hb0.below ((Below.refl _ _).alloc (Nat.le_refl _) (.cells #[.int .i64 0, .int .i64 0, .int .i64 0, .int .i64 0] 55)) hb0.lt
  have hbe : Below w.heap.size w ((w.alloc (.cells #[.int .i64 a.c, .int .i64 a.s, .int .i64 a.lo, .int .i64 a.hi] 55)).alloc (.cells #[.int .i64 0, .int .i64 0, .int .i64 0, .int .i64 0] 55)) := ((Below.refl _ _).alloc (Nat.le_refl _) _).alloc (by simp) _
  rw [World.size_alloc] at hb1
  have hz : ((w.alloc (.cells #[.int .i64 a.c, .int .i64 a.s, .int .i64 a.lo, .int .i64 a.hi] 55)).alloc (.cells #[.int .i64 0, .int .i64 0, .int .i64 0, .int .i64 0] 55)).heap.size = w.heap.size + 2 := by simp
  have H0 := Lib.hid (And.intro hb1 (And.intro hb2 (And.intro hbe hz)))
  have HA := Lib.hid (And.intro ha hone)
  obtain ⟨o, ho⟩ : ∃ o, Ag.put a v = o := ⟨_, rfl⟩
  have hj : Ag.join [a, Ag.one v] = o := ho
  rw [ho]
  have HJ := Lib.hid hj
  clear hb0 hb1 hb2 hbe hz ha hone ho hj hv
  go_enter Try.func41, Try.ntmps41
  cases o with
  | none =>
    go_wp2_with (go_at_call 44; refine (refJoin_any 2 _ _ _ [a, Ag.one v] _ (aggs_two _ _ a (Ag.one v) HA.out.1 HA.out.2 _ (by simp)) (by simp) (by omega)).mono ?_; intro e w1 hp1; unfold AggE at hp1; rw [HJ.out] at hp1; obtain ⟨b1, rfl⟩ := hp1; simp only [aggV, Ag.none']; have BX := Below.trans (Below.alloc (Below.refl (w.heap.size + 2) ((w.alloc (.cells #[.int .i64 a.c, .int .i64 a.s, .int .i64 a.lo, .int .i64 a.hi] 55)).alloc (.cells #[.int .i64 0, .int .i64 0, .int .i64 0, .int .i64 0] 55))) (by simp) _) (b1.mono (by simp)); have KA := H0.out.2.1.below BX (by omega); have KR := H0.out.1.below BX (by omega); have HW := Lib.hid (H0.out.2.2.1.trans (BX.mono (by omega))); have gc0 := fun o => (blk_alloc KR o).cell 0; have gc1 := fun o => (blk_alloc KR o).cell 1; have gc2 := fun o => (blk_alloc KR o).cell 2; have gc3 := fun o => (blk_alloc KR o).cell 3; have gf0 := fun o => (blk_alloc KR o).frozen 0; have gf1 := fun o => (blk_alloc KR o).frozen 1; have gf2 := fun o => (blk_alloc KR o).frozen 2; have gf3 := fun o => (blk_alloc KR o).frozen 3; have ac0 := fun o => (blk_alloc KA o).cell 0; have ac1 := fun o => (blk_alloc KA o).cell 1; have ac2 := fun o => (blk_alloc KA o).cell 2; have ac3 := fun o => (blk_alloc KA o).cell 3; have KK := Lib.hid KR; clear b1 BX KA KR)
    have hd := fun o => ((((blk_alloc KK.out o).set_ 0 (.int .i64 a.c)).set_ 1 (.int .i64 a.s)).set_ 2 (.int .i64 a.lo)).set_ 3 (.int .i64 a.hi)
    have e0 := fun o => (hd o).cell 0
    have e1 := fun o => (hd o).cell 1
    have e2 := fun o => (hd o).cell 2
    have e3 := fun o => (hd o).cell 3
    have hsz : w.heap.size ≤ w.heap.size + 1 := by omega
    refine bodyPost_ret (v := .tuple #[aggV a, .int .i64 30]) ?_ rfl ⟨?_, rfl⟩
    · simp [results, Try.results41, go_sem, aggV, e0, e1, e2, e3]
    · exact (((((HW.out).alloc HW.out.size _).setCell (p := ⟨w.heap.size + 1, 0, none⟩) hsz _).setCell (p := ⟨w.heap.size + 1, 1, none⟩) hsz _).setCell (p := ⟨w.heap.size + 1, 2, none⟩) hsz _).setCell (p := ⟨w.heap.size + 1, 3, none⟩) hsz _
  | some b =>
    go_wp2_with (go_at_call 44; refine (refJoin_any 2 _ _ _ [a, Ag.one v] _ (aggs_two _ _ a (Ag.one v) HA.out.1 HA.out.2 _ (by simp)) (by simp) (by omega)).mono ?_; intro e w1 hp1; unfold AggE at hp1; rw [HJ.out] at hp1; obtain ⟨b1, rfl⟩ := hp1; simp only [aggV]; have BX := Below.trans (Below.alloc (Below.refl (w.heap.size + 2) ((w.alloc (.cells #[.int .i64 a.c, .int .i64 a.s, .int .i64 a.lo, .int .i64 a.hi] 55)).alloc (.cells #[.int .i64 0, .int .i64 0, .int .i64 0, .int .i64 0] 55))) (by simp) _) (b1.mono (by simp)); have KA := H0.out.2.1.below BX (by omega); have KR := H0.out.1.below BX (by omega); have HW := Lib.hid (H0.out.2.2.1.trans (BX.mono (by omega))); have gc0 := fun o => (blk_alloc KR o).cell 0; have gc1 := fun o => (blk_alloc KR o).cell 1; have gc2 := fun o => (blk_alloc KR o).cell 2; have gc3 := fun o => (blk_alloc KR o).cell 3; have gf0 := fun o => (blk_alloc KR o).frozen 0; have gf1 := fun o => (blk_alloc KR o).frozen 1; have gf2 := fun o => (blk_alloc KR o).frozen 2; have gf3 := fun o => (blk_alloc KR o).frozen 3; have ac0 := fun o => (blk_alloc KA o).cell 0; have ac1 := fun o => (blk_alloc KA o).cell 1; have ac2 := fun o => (blk_alloc KA o).cell 2; have ac3 := fun o => (blk_alloc KA o).cell 3; have KK := Lib.hid KR; clear b1 BX KA KR)
    have hd := fun o => ((((blk_alloc KK.out o).set_ 0 (.int .i64 b.c)).set_ 1 (.int .i64 b.s)).set_ 2 (.int .i64 b.lo)).set_ 3 (.int .i64 b.hi)
    have e0 := fun o => (hd o).cell 0
    have e1 := fun o => (hd o).cell 1
    have e2 := fun o => (hd o).cell 2
    have e3 := fun o => (hd o).cell 3
    have hsz : w.heap.size ≤ w.heap.size + 1 := by omega
    refine bodyPost_ret (v := .tuple #[aggV b, .int .i64 0]) ?_ rfl ⟨?_, rfl⟩
    · simp [results, Try.results41, go_sem, aggV, e0, e1, e2, e3]
    · exact (((((HW.out).alloc HW.out.size _).setCell (p := ⟨w.heap.size + 1, 0, none⟩) hsz _).setCell (p := ⟨w.heap.size + 1, 1, none⟩) hsz _).setCell (p := ⟨w.heap.size + 1, 2, none⟩) hsz _).setCell (p := ⟨w.heap.size + 1, 3, none⟩) hsz _
end Go.Proofs.Ytaahlepgmcgcfaa
