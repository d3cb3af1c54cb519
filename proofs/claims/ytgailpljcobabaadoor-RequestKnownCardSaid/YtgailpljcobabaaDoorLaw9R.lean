/- Layer 9's statement RequestReads. Made by tools/gen/rqt.py. -/
import Derived.Test.YtgailpljcobabaaDoorRqO
import Derived.Test.YtgailpljcobabaaDoorRqT
import Derived.Test.YtgailpljcobabaaDoorSame9
import Derived.Deep.DeepCutAuto
namespace Go.Proofs.YtgailpljcobabaaDoor
open Go.ChangeShapes Go.WideShapes Go.ChangeAt Go.RowKit

theorem same_r9 {n n' c c' B : Nat} {A A' : Option Addr} {l : List Nat} {w : World} (hb : Bytes w B A n l) (hb' : Bytes w B A' n' l) (hn : n ≤ 1000000) :
    Calls Tryd.prog 12 #[.slice A n c, .slice A' n' c'] w fun e w' => e = .returned (.bool true) ∧ Below w.heap.size w w' := by
  refine (same_yes n c n' c' B A A' l w hb hb' (by omega)).mono ?_
  rintro e w' ⟨rfl, m, rfl⟩
  exact ⟨rfl, below_dn _ _⟩
set_option maxRecDepth 100000 in
set_option maxHeartbeats 8000000 in
theorem requestReads_any (n c B : Nat) (A : Option Addr) (b : List Nat) (w : World) (hV : Vars w) (hb : Bytes w B A n b) (hB : B ≤ w.heap.size) (hnc : n ≤ c) : Calls Tryd.prog 4 #[.slice A n c] w (LawP w) := by
  have HV : Hid (∀ W, Below w.heap.size w W → Vars W) := Lib.hid fun W hW => hV.next hW
  have WK : Hid (∀ W, Below w.heap.size w W → Calls Tryd.prog 8 #[] W (LawP W)) := Lib.hid fun W hW => works9_any W (HV.out W hW)
  by_cases h300 : 300 < n
  · have i20 : (300 : Int) < n := by omega
    clear hb hB hnc hV h300
    go_enter Tryd.func4, Tryd.ntmps4
    go_wp2_with fail
    refine (WK.out _ (Below.refl _ _)).mono ?_
    rintro e w1 ⟨rfl, b1⟩
    have HB1 := Lib.hid b1
    clear b1
    go_wp2_with fail
    go_ret
    exact ⟨rfl, HB1.out⟩
  have i20 : ¬ (300 : Int) < n := by omega
  have BY : Hid (∀ W, Below w.heap.size w W → Bytes W B A n b ∧ B ≤ W.heap.size) := Lib.hid fun W hW => ⟨hb.below hW hB, Nat.le_trans hB hW.size⟩
  have CO := Lib.hid (own_any n c B A b w hb (by omega))
  have HLT := Lib.hid hb.2.1
  have hok := Rq.psx_ok hb.2.1
  obtain ⟨X, hX⟩ : ∃ X, Rq.psx b = X := ⟨_, rfl⟩
  obtain ⟨E, hE⟩ : ∃ E, Rq.pse b = E := ⟨_, rfl⟩
  obtain ⟨I, hI⟩ : ∃ I, Rq.idOf b = I := ⟨_, rfl⟩
  have CP : Hid (∀ W, Below w.heap.size w W → Calls Tryd.prog 19 #[.slice A n c] W fun e W' => e = .returned (.tuple #[X.val, .int .i64 E]) ∧ Below W.heap.size W W') := Lib.hid fun W hW => by
    have h := pParse9_any n c B A b W (HV.out W hW) (BY.out W hW).1 (BY.out W hW).2 (by omega)
    unfold PsP at h
    rw [hX, hE] at h
    exact h
  have CR : Hid (∀ W A' c' B', Bytes W B' A' n b → B' ≤ W.heap.size → n ≤ c' → Calls Tryd.prog 20 #[.slice A' n c'] W fun e W' => e = .returned (.tuple #[X.val, .int .i64 E]) ∧ Below W.heap.size W W') := Lib.hid fun W A' c' B' h1 h2 h3 => by
    have h := refParse9_any n c' B' A' b W h1 h2 (by omega) h3
    unfold PsP at h
    rw [hX, hE] at h
    exact h
  have CI : Hid (∀ W, Below w.heap.size w W → Calls Tryd.prog 21 #[.slice A n c] W fun e W' => e = .returned (.int .u32 (I : Int)) ∧ Below W.heap.size W W') := Lib.hid fun W hW => by
    rw [← hI]
    exact pId_any n c B A b W (BY.out W hW).1 (BY.out W hW).2 (by omega) hnc
  have CJ : Hid (∀ W A' c' B', Bytes W B' A' n b → B' ≤ W.heap.size → Calls Tryd.prog 22 #[.slice A' n c'] W fun e W' => e = .returned (.int .u32 (I : Int)) ∧ Below W.heap.size W W') := Lib.hid fun W A' c' B' h1 h2 => by
    rw [← hI]
    exact refId_any n c' B' A' b W h1 h2 (by omega)
  have CS : Hid (∀ W A' c' B', Below w.heap.size w W → Bytes W B' A' n b → B' ≤ W.heap.size → Calls Tryd.prog 12 #[.slice A n c, .slice A' n c'] W fun e W' => e = .returned (.bool true) ∧ Below W.heap.size W W') := Lib.hid fun W A' c' B' hW h1 h2 => same_r9 ((BY.out W hW).1.more (BY.out W hW).2) (h1.more h2) (by omega)
  have CF : Hid (∀ W, Calls Tryd.prog 10 #[X.val] W fun e w' => e = .returned X.val ∧ Below W.heap.size W w') := Lib.hid fun W => ref_any X W
  have q1 : ∀ W, (Op.equalIn 10000 33 (.agg X.cells) (.agg X.cells)).run Tryd.prog W = .ok true W := fun W => by rw [rreq_equal X X W, Rq.eqb_self]
  have g1 := rreq_guard
  have i9 : (E == E) = true := by simp
  have i10 : ((I : Int) == (I : Int)) = true := by simp
  clear hV hb hB hnc h300 hok hX hE hI
  obtain ⟨k, id, pg, du, a, l, s, ky, tz, lo, hi⟩ := X
  unfold Rq.V.val at CP CR CF
  unfold Rq.V.cells at CP CR CF q1
  dsimp only at CP CR CF q1
  go_enter Tryd.func4, Tryd.ntmps4
  go_wp2_with fail
  refine CO.out.mono ?_
  rintro e w1 ⟨A1, c1, rfl, o1, b1⟩
  have H1 := Lib.hid (And.intro (Bytes.of_own o1 HLT.out) (And.intro b1 (own_cap o1)))
  clear o1 b1
  go_wp2_with fail
  refine (CP.out _ H1.out.2.1).mono ?_
  rintro e w2 ⟨rfl, b2⟩
  have S2 := ((Held.start w).step H1.out.2.1 |>.step b2).new #[.int .u8 (k : Int), .int .u32 (id : Int), .int .u8 (pg : Int), .int .u16 (du : Int), .int .u64 (a : Int), .int .u64 (l : Int), .int .u8 (s : Int), .string ky, .string tz, .int .i64 lo, .int .i64 hi] 26
  have D2 := b2.alloc b2.size (.cells #[.int .u8 (k : Int), .int .u32 (id : Int), .int .u8 (pg : Int), .int .u16 (du : Int), .int .u64 (a : Int), .int .u64 (l : Int), .int .u8 (s : Int), .string ky, .string tz, .int .i64 lo, .int .i64 hi] 26)
  clear b2
  go_upto_region 5 with (fail)
  obtain ⟨W2, hW⟩ : ∃ W, w2.alloc (.cells #[.int .u8 (k : Int), .int .u32 (id : Int), .int .u8 (pg : Int), .int .u16 (du : Int), .int .u64 (a : Int), .int .u64 (l : Int), .int .u8 (s : Int), .string ky, .string tz, .int .i64 lo, .int .i64 hi] 26) = W := ⟨_, rfl⟩
  rw [hW] at S2 D2 ⊢
  have S2' := Lib.hid S2
  have D2' := Lib.hid D2
  clear hW S2 D2
  go_wp2_with fail
  refine (CR.out W2 A1 c1 _ (H1.out.1.below D2'.out (Nat.le_refl _)) D2'.out.size H1.out.2.2).mono ?_
  rintro e w3 ⟨rfl, b3⟩
  have S3 := (S2'.out.step b3).new #[.int .u8 (k : Int), .int .u32 (id : Int), .int .u8 (pg : Int), .int .u16 (du : Int), .int .u64 (a : Int), .int .u64 (l : Int), .int .u8 (s : Int), .string ky, .string tz, .int .i64 lo, .int .i64 hi] 33
  have D3 := (D2'.out.trans (b3.mono D2'.out.size)).alloc (D2'.out.trans (b3.mono D2'.out.size)).size (.cells #[.int .u8 (k : Int), .int .u32 (id : Int), .int .u8 (pg : Int), .int .u16 (du : Int), .int .u64 (a : Int), .int .u64 (l : Int), .int .u8 (s : Int), .string ky, .string tz, .int .i64 lo, .int .i64 hi] 33)
  clear b3
  go_upto_region 6 with (fail)
  obtain ⟨W3, hW⟩ : ∃ W, w3.alloc (.cells #[.int .u8 (k : Int), .int .u32 (id : Int), .int .u8 (pg : Int), .int .u16 (du : Int), .int .u64 (a : Int), .int .u64 (l : Int), .int .u8 (s : Int), .string ky, .string tz, .int .i64 lo, .int .i64 hi] 33) = W := ⟨_, rfl⟩
  rw [hW] at S3 D3 ⊢
  have P : Hid (∀ W, Below W3.heap.size W3 W → (W.cell? ⟨w2.heap.size, 0, none⟩ = some (.int .u8 (k : Int)) ∧ W.cell? ⟨w2.heap.size, 1, none⟩ = some (.int .u32 (id : Int)) ∧ W.cell? ⟨w2.heap.size, 2, none⟩ = some (.int .u8 (pg : Int)) ∧ W.cell? ⟨w2.heap.size, 3, none⟩ = some (.int .u16 (du : Int)) ∧ W.cell? ⟨w2.heap.size, 4, none⟩ = some (.int .u64 (a : Int)) ∧ W.cell? ⟨w2.heap.size, 5, none⟩ = some (.int .u64 (l : Int)) ∧ W.cell? ⟨w2.heap.size, 6, none⟩ = some (.int .u8 (s : Int)) ∧ W.cell? ⟨w2.heap.size, 7, none⟩ = some (.string ky) ∧ W.cell? ⟨w2.heap.size, 8, none⟩ = some (.string tz) ∧ W.cell? ⟨w2.heap.size, 9, none⟩ = some (.int .i64 lo) ∧ W.cell? ⟨w2.heap.size, 10, none⟩ = some (.int .i64 hi)) ∧ (W.cell? ⟨w3.heap.size, 0, none⟩ = some (.int .u8 (k : Int)) ∧ W.cell? ⟨w3.heap.size, 1, none⟩ = some (.int .u32 (id : Int)) ∧ W.cell? ⟨w3.heap.size, 2, none⟩ = some (.int .u8 (pg : Int)) ∧ W.cell? ⟨w3.heap.size, 3, none⟩ = some (.int .u16 (du : Int)) ∧ W.cell? ⟨w3.heap.size, 4, none⟩ = some (.int .u64 (a : Int)) ∧ W.cell? ⟨w3.heap.size, 5, none⟩ = some (.int .u64 (l : Int)) ∧ W.cell? ⟨w3.heap.size, 6, none⟩ = some (.int .u8 (s : Int)) ∧ W.cell? ⟨w3.heap.size, 7, none⟩ = some (.string ky) ∧ W.cell? ⟨w3.heap.size, 8, none⟩ = some (.string tz) ∧ W.cell? ⟨w3.heap.size, 9, none⟩ = some (.int .i64 lo) ∧ W.cell? ⟨w3.heap.size, 10, none⟩ = some (.int .i64 hi))) := Lib.hid fun W hW => by
    have hs := S3.step hW
    have k1 := hs.at_ (List.mem_cons_self ..)
    have k2 := hs.at_ (List.mem_cons_of_mem _ (List.mem_cons_self ..))
    exact ⟨(req_cells (x := ⟨k, id, pg, du, a, l, s, ky, tz, lo, hi⟩) k2).1, (req_cells (x := ⟨k, id, pg, du, a, l, s, ky, tz, lo, hi⟩) k1).1⟩
  have U : Hid (∀ W, Below W3.heap.size W3 W → Below w.heap.size w W) := Lib.hid fun W hW => (S3.step hW).1
  have O : Hid (∀ W, Below W3.heap.size W3 W → Bytes W w1.heap.size A1 n b ∧ w1.heap.size ≤ W.heap.size) := Lib.hid fun W hW => ⟨H1.out.1.below (D3.trans (hW.mono D3.size)) (Nat.le_refl _), Nat.le_trans D3.size hW.size⟩
  have D0 : Hid (Below W3.heap.size W3 W3.drew) := Lib.hid (Below.refl _ _).drew
  clear hW S3 D3
  go_region_held3 (fun W => (W.cell? ⟨w2.heap.size, 0, none⟩ = some (.int .u8 (k : Int)) ∧ W.cell? ⟨w2.heap.size, 1, none⟩ = some (.int .u32 (id : Int)) ∧ W.cell? ⟨w2.heap.size, 2, none⟩ = some (.int .u8 (pg : Int)) ∧ W.cell? ⟨w2.heap.size, 3, none⟩ = some (.int .u16 (du : Int)) ∧ W.cell? ⟨w2.heap.size, 4, none⟩ = some (.int .u64 (a : Int)) ∧ W.cell? ⟨w2.heap.size, 5, none⟩ = some (.int .u64 (l : Int)) ∧ W.cell? ⟨w2.heap.size, 6, none⟩ = some (.int .u8 (s : Int)) ∧ W.cell? ⟨w2.heap.size, 7, none⟩ = some (.string ky) ∧ W.cell? ⟨w2.heap.size, 8, none⟩ = some (.string tz) ∧ W.cell? ⟨w2.heap.size, 9, none⟩ = some (.int .i64 lo) ∧ W.cell? ⟨w2.heap.size, 10, none⟩ = some (.int .i64 hi)) ∧ (W.cell? ⟨w3.heap.size, 0, none⟩ = some (.int .u8 (k : Int)) ∧ W.cell? ⟨w3.heap.size, 1, none⟩ = some (.int .u32 (id : Int)) ∧ W.cell? ⟨w3.heap.size, 2, none⟩ = some (.int .u8 (pg : Int)) ∧ W.cell? ⟨w3.heap.size, 3, none⟩ = some (.int .u16 (du : Int)) ∧ W.cell? ⟨w3.heap.size, 4, none⟩ = some (.int .u64 (a : Int)) ∧ W.cell? ⟨w3.heap.size, 5, none⟩ = some (.int .u64 (l : Int)) ∧ W.cell? ⟨w3.heap.size, 6, none⟩ = some (.int .u8 (s : Int)) ∧ W.cell? ⟨w3.heap.size, 7, none⟩ = some (.string ky) ∧ W.cell? ⟨w3.heap.size, 8, none⟩ = some (.string tz) ∧ W.cell? ⟨w3.heap.size, 9, none⟩ = some (.int .i64 lo) ∧ W.cell? ⟨w3.heap.size, 10, none⟩ = some (.int .i64 hi))) (first | with_reducible exact P.out _ D0.out | with_reducible exact P.out _ D1.out | with_reducible exact P.out _ D2.out | with_reducible exact P.out _ D3.out | with_reducible exact P.out _ D4.out | with_reducible exact P.out _ D5.out | fail) (first
    | (go_at_call 10; (with_reducible refine (CF.out _).mono ?_); rintro e v1 ⟨rfl, p1⟩; have D1 := Lib.hid (below_next D0.out p1); clear p1)
    | (go_at_call 21; (with_reducible refine (CI.out _ (U.out _ D1.out)).mono ?_); rintro e v2 ⟨rfl, p2⟩; have D2 := Lib.hid (below_next D1.out p2); clear p2)
    | (go_at_call 22; (with_reducible refine (CJ.out _ A1 c1 _ (O.out _ D2.out).1 (O.out _ D2.out).2).mono ?_); rintro e v3 ⟨rfl, p3⟩; have D3 := Lib.hid (below_next D2.out p3); clear p3)
    | (go_at_call 12; (with_reducible refine (CS.out _ A1 c1 _ (U.out _ D3.out) (O.out _ D3.out).1 (O.out _ D3.out).2).mono ?_); rintro e v4 ⟨rfl, p4⟩; have D4 := Lib.hid (below_next D3.out p4); clear p4)
    | (go_at_call 8; (with_reducible refine (WK.out _ (U.out _ D4.out)).mono ?_); rintro e v5 ⟨rfl, p5⟩; have D5 := Lib.hid (below_next D4.out p5); clear p5))
  all_goals (go_wp2_with fail)
  go_ret
  exact ⟨rfl, U.out _ D5.out⟩
end Go.Proofs.YtgailpljcobabaaDoor
