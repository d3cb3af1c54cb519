/- Layer 8's statement ReplyFails. -/
import Derived.Test.YtognlgklepgemaaGreatRpJ
import Derived.Test.YtognlgklepgemaaGreatRpR
namespace Go.Proofs.YtognlgklepgemaaGreat
open Go.ChangeShapes Go.WideShapes Go.ChangeAt Go.RowKit

theorem psame_self (l : List Pn) : psame l l = true := (psame_iff l l).2 rfl
theorem rsame_self (l : List Rw) : rsame l l = true := (rsame_iff l l).2 rfl
theorem Rp.same_at (x : Rp.V) (rows : List Rw) (gone : List Pn) (A : Option Addr) (c : Nat) (G : Option Addr) (d : Nat) (A' : Option Addr) (c' : Nat) (G' : Option Addr) (d' : Nat) : Rp.same (x.at_ A c G d) (x.at_ A' c' G' d') rows rows gone gone = true := by
  unfold Rp.same
  rw [rsame_self, psame_self]
  simp [Rp.V.at_, Rp.V.nums]
theorem Rp.at_self (x : Rp.V) : x.at_ x.A x.c x.G x.d = x := rfl
theorem Rp.fails_right (id : Nat) (e : Int) (fl : Nat) : (Rp.failsV id e fl).right [] [] = true := by
  have hc : (Rp.failsV id e fl).code ≠ 0 := by
    unfold Rp.failsV
    dsimp only
    split
    · omega
    · omega
  have hk : (Rp.failsV id e fl).kind = true := decide_eq_true ⟨by show 1 ≤ 7; omega, by show 7 ≤ 7; omega, fun h => hc h.2, by show 0 + 0 ≤ 64; omega⟩
  unfold Rp.V.right
  rw [hk]
  rfl
theorem Rp.fails_ok (id : Nat) (e : Int) (fl : Nat) (h1 : id < 4294967296) (h2 : fl < 18446744073709551616) : (Rp.failsV id e fl).ok := by
  refine ⟨by show 7 < 256; omega, h1, ?_, by show 0 < _; omega, h2, by show 0 < _; omega, by show 0 < _; omega, by show 0 < _; omega, by show 0 < _; omega⟩
  unfold Rp.failsV
  dsimp only
  split <;> omega
set_option maxRecDepth 100000 in
set_option maxHeartbeats 2000000 in
theorem replyFails_any (id : Nat) (e : Int) (fl : Nat) (w : World) (h1 : id < 4294967296) (h2 : fl < 18446744073709551616) : Calls Tryz.prog 13 #[.int .u32 (id : Int), .int .i64 e, .int .u64 (fl : Int)] w (LawP w) := by
  obtain ⟨x, hx⟩ : ∃ x, Rp.failsV id e fl = x := ⟨_, rfl⟩
  have hn : x.n = 0 := by rw [← hx]; rfl
  have hm : x.m = 0 := by rw [← hx]; rfl
  have hA : x.at_ none 0 none 0 = x := by rw [← hx]; rfl
  have hin : ∀ W : World, x.In W 0 [] [] := fun W => ⟨by rw [hn]; exact RowsIn.nil, by rw [hm]; exact PansIn.nil⟩
  have hok : x.ok := by rw [← hx]; exact Rp.fails_ok id e fl h1 h2
  have hrt : x.right [] [] = true := by rw [← hx]; exact Rp.fails_right id e fl
  have CF : Hid (∀ W, Calls Tryz.prog 32 #[.int .u32 (id : Int), .int .i64 e, .int .u64 (fl : Int)] W fun e' w' => e' = .returned x.val ∧ Below W.heap.size W w') := Lib.hid fun W => by rw [← hx]; exact pFails_any id e fl W
  have CG : Hid (∀ W, Calls Tryz.prog 33 #[.int .u32 (id : Int), .int .i64 e, .int .u64 (fl : Int)] W fun e' w' => e' = .returned x.val ∧ Below W.heap.size W w') := Lib.hid fun W => by rw [← hx]; exact refFails8_any id e fl W
  have CD : Hid (∀ W, Calls Tryz.prog 9 #[x.val] W (RepP W x [] [])) := Lib.hid fun W => docRep_any x [] [] 0 W (hin W) (Nat.zero_le _) (by omega) (by omega)
  have CS : Hid (∀ W A c G d, (x.at_ A c G d).In W W.heap.size [] [] → Calls Tryz.prog 22 #[(x.at_ A c G d).val, x.val] W fun e' w' => e' = .returned (.bool true) ∧ Below W.heap.size W w') := Lib.hid fun W A c G d h => by
    have h := refSame8_any (x.at_ A c G d) x [] [] [] [] W.heap.size W h ⟨by rw [hn]; exact RowsIn.nil, by rw [hm]; exact PansIn.nil⟩ (Nat.le_refl _) (by show x.n ≤ 1000; omega) (by show x.m ≤ 1000; omega) (by omega) (by omega)
    have e : Rp.same (x.at_ A c G d) x [] [] [] [] = true := by
      have := Rp.same_at x [] [] A c G d none 0 none 0
      rw [hA] at this
      exact this
    rw [e] at h
    exact h
  have CR : Hid (∀ W, Calls Tryz.prog 19 #[x.val] W fun e' w' => e' = .returned (.bool true) ∧ Below W.heap.size W w') := Lib.hid fun W => by
    rw [← hrt]
    exact pRight8_any x [] [] 0 W (hin W) (Nat.zero_le _) hok (by omega) (by omega)
  have RC : Hid (∀ (w0 W : World) g l, Held w0 W ((g, 28, x.cells) :: l) → RepCells W g x) := Lib.hid fun w0 W g l hW => (rep_cells hW.top).1
  clear hx hn hm hA hin hok hrt h1 h2
  obtain ⟨k, id', code, last, ep, fl', un, le, st, ti, A, n, c, G, m, d⟩ := x
  unfold Rp.V.val RepCells Rp.V.at_ at *
  unfold Rp.V.cells at *
  dsimp only at *
  go_enter Tryz.func13, Tryz.ntmps13
  go_wp2_with fail
  refine (CF.out _).mono ?_
  rintro e' w1 ⟨rfl, b1⟩
  have H1 := Lib.hid (((Held.start w).step b1).new #[.int .u8 (k : Int), .int .u32 (id' : Int), .int .u16 (code : Int), .bool last, .int .u64 (ep : Int), .int .u64 (fl' : Int), .int .u64 (un : Int), .int .u64 (le : Int), .int .u64 (st : Int), .int .u64 (ti : Int), .slice A n c, .slice G m d] 28)
  clear b1
  go_wp2_with fail
  refine (CD.out _).mono ?_
  rintro e' w2 ⟨A2, c2, G2, d2, rfl, i2, b2⟩
  have H2 := Lib.hid (And.intro (H1.out.step b2) i2)
  clear b2 i2
  unfold Rp.V.val Rp.V.at_ Rp.V.cells
  dsimp only
  go_wp2_with fail
  refine (CG.out _).mono ?_
  rintro e' w3 ⟨rfl, b3⟩
  have H3 := Lib.hid (And.intro (H2.out.1.step b3) ((H2.out.2.below b3 (Nat.le_refl _)).more b3.size))
  clear b3
  go_wp2_with fail
  refine (CS.out _ A2 c2 G2 d2 H3.out.2).mono ?_
  rintro e' w4 ⟨rfl, b4⟩
  have H4 := Lib.hid (H3.out.1.step b4)
  obtain ⟨y0, y1, y2, y3, y4, y5, y6, y7, y8, y9, y10, y11⟩ := RC.out _ _ _ _ H4.out
  clear b4
  go_wp2_with fail
  refine (CR.out _).mono ?_
  rintro e' w5 ⟨rfl, b5⟩
  have H5 := Lib.hid (H4.out.step b5)
  clear b5 y0 y1 y2 y3 y4 y5 y6 y7 y8 y9 y10 y11
  go_wp2_with fail
  refine (works8_any _).mono ?_
  rintro e' w6 ⟨rfl, b6⟩
  have H6 := Lib.hid (H5.out.step b6)
  clear b6
  go_wp2_with fail
  go_ret
  exact ⟨rfl, H6.out.1⟩
end Go.Proofs.YtognlgklepgemaaGreat
