/- Layer 8's reference: take, for every part. Made by tools/gen/rpst.py. -/
import Derived.Test.YtognlgklepgemaaGreatRpRs
import Derived.Test.YtognlgklepgemaaGreatM8A
namespace Go.Proofs.YtognlgklepgemaaGreat
open Go.ChangeShapes Go.WideShapes Go.ChangeAt Go.RowKit

def StepP (w : World) (n c : Nat) (A : Option Addr) (b : List Nat) (σ : Rp.Sg) (p : Nat) (Q : Option Addr) (c1 : Nat) (G : Option Addr) (d : Nat) (e : Ending) (w' : World) : Prop :=
  ∃ a' g Q' c1' G' d' odd, a' ≤ n ∧ (σ.rstep p).s = (b.drop a', g) ∧ (σ.rstep p).odd = (σ.odd || odd) ∧ e = .returned (.tuple #[((σ.rstep p).x.at_ Q' c1' G' d').val, .agg #[.slice A n c, .int .i64 (a' : Int), .bool g], .bool odd]) ∧ Below w.heap.size w w' ∧ (p = 8 → w'.ownsRow (w.heap.size + 4) 93 7 (.slice Q' (σ.rstep p).x.n c1') (σ.rstep p).x.n (rcells (σ.rstep p).rows)) ∧ (p ≠ 8 → Q' = Q ∧ c1' = c1) ∧ (p = 9 → w'.ownsRow (w.heap.size + 4) 90 3 (.slice G' (σ.rstep p).x.m d') (σ.rstep p).x.m (pncells (σ.rstep p).gone)) ∧ (p ≠ 9 → G' = G ∧ d' = d)
set_option maxRecDepth 100000 in
set_option maxHeartbeats 2000000 in
theorem refTakeStep_any (σ : Rp.Sg) (p : Nat) (hp : p < 10) (n c a B : Nat) (A : Option Addr) (b : List Nat) (f : Bool) (Q : Option Addr) (c1 : Nat) (G : Option Addr) (d : Nat) (w : World) (hb : Bytes w B A n b) (hB : B ≤ w.heap.size) (hn : n ≤ 1000000) (ha : a ≤ n) (hc : n ≤ c) (hs : σ.s = (b.drop a, f)) (hq : p = 8 → Q = none ∧ σ.x.n = 0 ∧ c1 = 0) (hg : p = 9 → G = none ∧ σ.x.m = 0 ∧ d = 0) :
    Calls Tryz.prog 65 #[(σ.x.at_ Q c1 G d).val, .int .u8 ((Rp.lett p : Nat) : Int), .agg #[.slice A n c, .int .i64 (a : Int), .bool f]] w (StepP w n c A b σ p Q c1 G d) := by
  obtain ⟨x, rows, gone, s, odd⟩ := σ
  dsimp only at hs hq hg
  subst hs
  have hlt : Rp.St.ok (b.drop a, f) := fun y hy => hb.2.1 y (List.mem_of_mem_drop hy)
  have h2 : Rp.vl (b.drop a, f) 2 < 65536 := Rp.vl_lt hlt 2
  have h1 : Rp.vl (b.drop a, f) 1 < 256 := Rp.vl_lt hlt 1
  have hor : odd = (odd || false) := (Bool.or_false odd).symm
  rcases (by omega : p = 0 ∨ p = 1 ∨ p = 2 ∨ p = 3 ∨ p = 4 ∨ p = 5 ∨ p = 6 ∨ p = 7 ∨ p = 8 ∨ p = 9) with rfl | rfl | rfl | rfl | rfl | rfl | rfl | rfl | rfl | rfl
  · refine (show Calls Tryz.prog 65 #[(x.at_ Q c1 G d).val, .int .u8 99, .agg #[.slice A n c, .int .i64 (a : Int), .bool f]] w _ from refTakeCode_any (x.at_ Q c1 G d) n c a B _ A b f w hb hB hn ha rfl h2).mono ?_
    rintro e w' ⟨a', g, ha', hnx, rfl, bel⟩
    exact ⟨a', g, Q, c1, G, d, false, ha', hnx, hor, rfl, bel, fun h => absurd h (by decide), fun _ => ⟨rfl, rfl⟩, fun h => absurd h (by decide), fun _ => ⟨rfl, rfl⟩⟩
  · have e1 : ((Rp.vl (b.drop a, f) 1 : Int) == 1) = decide (Rp.vl (b.drop a, f) 1 = 1) := by rw [Bool.eq_iff_iff, beq_iff_eq, decide_eq_true_iff]; omega
    have e2 : decide ((1 : Int) < (Rp.vl (b.drop a, f) 1 : Int)) = decide (1 < Rp.vl (b.drop a, f) 1) := by rw [decide_eq_decide]; omega
    refine (show Calls Tryz.prog 65 #[(x.at_ Q c1 G d).val, .int .u8 108, .agg #[.slice A n c, .int .i64 (a : Int), .bool f]] w _ from refTakeLast_any (x.at_ Q c1 G d) n c a B _ A b f w hb hB hn ha rfl).mono ?_
    rintro e w' ⟨a', g, ha', hnx, rfl, bel⟩
    rw [e1, e2]
    exact ⟨a', g, Q, c1, G, d, _, ha', hnx, rfl, rfl, bel, fun h => absurd h (by decide), fun _ => ⟨rfl, rfl⟩, fun h => absurd h (by decide), fun _ => ⟨rfl, rfl⟩⟩
  · refine (show Calls Tryz.prog 65 #[(x.at_ Q c1 G d).val, .int .u8 101, .agg #[.slice A n c, .int .i64 (a : Int), .bool f]] w _ from refTakeEpoch_any (x.at_ Q c1 G d) n c a B _ A b f w hb hB hn ha rfl).mono ?_
    rintro e w' ⟨a', g, ha', hnx, rfl, bel⟩
    exact ⟨a', g, Q, c1, G, d, false, ha', hnx, hor, rfl, bel, fun h => absurd h (by decide), fun _ => ⟨rfl, rfl⟩, fun h => absurd h (by decide), fun _ => ⟨rfl, rfl⟩⟩
  · refine (show Calls Tryz.prog 65 #[(x.at_ Q c1 G d).val, .int .u8 102, .agg #[.slice A n c, .int .i64 (a : Int), .bool f]] w _ from refTakeFloor_any (x.at_ Q c1 G d) n c a B _ A b f w hb hB hn ha rfl).mono ?_
    rintro e w' ⟨a', g, ha', hnx, rfl, bel⟩
    exact ⟨a', g, Q, c1, G, d, false, ha', hnx, hor, rfl, bel, fun h => absurd h (by decide), fun _ => ⟨rfl, rfl⟩, fun h => absurd h (by decide), fun _ => ⟨rfl, rfl⟩⟩
  · refine (show Calls Tryz.prog 65 #[(x.at_ Q c1 G d).val, .int .u8 117, .agg #[.slice A n c, .int .i64 (a : Int), .bool f]] w _ from refTakeUntil_any (x.at_ Q c1 G d) n c a B _ A b f w hb hB hn ha rfl).mono ?_
    rintro e w' ⟨a', g, ha', hnx, rfl, bel⟩
    exact ⟨a', g, Q, c1, G, d, false, ha', hnx, hor, rfl, bel, fun h => absurd h (by decide), fun _ => ⟨rfl, rfl⟩, fun h => absurd h (by decide), fun _ => ⟨rfl, rfl⟩⟩
  · refine (show Calls Tryz.prog 65 #[(x.at_ Q c1 G d).val, .int .u8 76, .agg #[.slice A n c, .int .i64 (a : Int), .bool f]] w _ from refTakeLease_any (x.at_ Q c1 G d) n c a B _ A b f w hb hB hn ha rfl).mono ?_
    rintro e w' ⟨a', g, ha', hnx, rfl, bel⟩
    exact ⟨a', g, Q, c1, G, d, false, ha', hnx, hor, rfl, bel, fun h => absurd h (by decide), fun _ => ⟨rfl, rfl⟩, fun h => absurd h (by decide), fun _ => ⟨rfl, rfl⟩⟩
  · refine (show Calls Tryz.prog 65 #[(x.at_ Q c1 G d).val, .int .u8 115, .agg #[.slice A n c, .int .i64 (a : Int), .bool f]] w _ from refTakeStored_any (x.at_ Q c1 G d) n c a B _ A b f w hb hB hn ha rfl).mono ?_
    rintro e w' ⟨a', g, ha', hnx, rfl, bel⟩
    exact ⟨a', g, Q, c1, G, d, false, ha', hnx, hor, rfl, bel, fun h => absurd h (by decide), fun _ => ⟨rfl, rfl⟩, fun h => absurd h (by decide), fun _ => ⟨rfl, rfl⟩⟩
  · refine (show Calls Tryz.prog 65 #[(x.at_ Q c1 G d).val, .int .u8 116, .agg #[.slice A n c, .int .i64 (a : Int), .bool f]] w _ from refTakeTick_any (x.at_ Q c1 G d) n c a B _ A b f w hb hB hn ha rfl).mono ?_
    rintro e w' ⟨a', g, ha', hnx, rfl, bel⟩
    exact ⟨a', g, Q, c1, G, d, false, ha', hnx, hor, rfl, bel, fun h => absurd h (by decide), fun _ => ⟨rfl, rfl⟩, fun h => absurd h (by decide), fun _ => ⟨rfl, rfl⟩⟩
  · obtain ⟨rfl, hx, rfl⟩ := hq rfl
    obtain ⟨k, id, code, last, ep, fl, un, le, st, ti, XA, xn, xc, XG, xm, xd⟩ := x
    dsimp only at hx
    subst hx
    refine (show Calls Tryz.prog 65 #[(Rp.V.at_ ⟨k, id, code, last, ep, fl, un, le, st, ti, XA, 0, xc, XG, xm, xd⟩ none 0 G d).val, .int .u8 114, .agg #[.slice A n c, .int .i64 (a : Int), .bool f]] w _ from refTakeRows_any k id code last ep fl un le st ti G xm d n c a B _ A b f w hb hB hn ha hc rfl h1).mono ?_
    rintro e w' ⟨a', g, A', c', m', ha', hnx, hm, rfl, own, bel⟩
    subst hm
    exact ⟨a', g, A', c', G, d, false, ha', hnx, hor, rfl, bel, fun _ => own, fun h => absurd rfl h, fun h => absurd h (by decide), fun _ => ⟨rfl, rfl⟩⟩
  · obtain ⟨rfl, hx, rfl⟩ := hg rfl
    obtain ⟨k, id, code, last, ep, fl, un, le, st, ti, XA, xn, xc, XG, xm, xd⟩ := x
    dsimp only at hx
    subst hx
    refine (show Calls Tryz.prog 65 #[(Rp.V.at_ ⟨k, id, code, last, ep, fl, un, le, st, ti, XA, xn, xc, XG, 0, xd⟩ Q c1 none 0).val, .int .u8 103, .agg #[.slice A n c, .int .i64 (a : Int), .bool f]] w _ from refTakeGone_any k id code last ep fl un le st ti Q xn c1 n c a B _ A b f w hb hB hn ha hc rfl h1).mono ?_
    rintro e w' ⟨a', g, A', c', m', ha', hnx, hm, rfl, own, bel⟩
    subst hm
    exact ⟨a', g, Q, c1, A', c', false, ha', hnx, hor, rfl, bel, fun h => absurd h (by decide), fun _ => ⟨rfl, rfl⟩, fun _ => own, fun h => absurd rfl h⟩
end Go.Proofs.YtognlgklepgemaaGreat
