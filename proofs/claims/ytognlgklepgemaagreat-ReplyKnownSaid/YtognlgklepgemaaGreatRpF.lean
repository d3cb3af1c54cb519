/- Layer 8: errors as replies, of the program and of the reference; the law's works. -/
import Derived.Test.YtognlgklepgemaaGreatRpU
import Derived.Test.YtognlgklepgemaaGreatConv
namespace Go.Proofs.YtognlgklepgemaaGreat
open Go.ChangeShapes Go.WideShapes Go.ChangeAt Go.RowKit

def Rp.failsV (id : Nat) (e : Int) (fl : Nat) : Rp.V := ⟨7, id, if 1 ≤ e ∧ e ≤ 65535 then e.toNat else 2, false, 0, fl, 0, 0, 0, 0, none, 0, 0, none, 0, 0⟩
theorem u16_wrap (e : Int) (h1 : 1 ≤ e) (h2 : e ≤ 65535) : IntKind.u16.wrap e = e := by
  simp [IntKind.wrap, IntKind.bits, IntKind.signed]
  omega
set_option maxRecDepth 100000 in
set_option maxHeartbeats 1000000 in
theorem pFails_any (id : Nat) (e : Int) (fl : Nat) (w : World) : Calls Tryz.prog 32 #[.int .u32 (id : Int), .int .i64 e, .int .u64 (fl : Int)] w fun e' w' => e' = .returned (Rp.failsV id e fl).val ∧ Below w.heap.size w w' := by
  have hb : ∀ (o : Obj), Below w.heap.size w (w.alloc o) := fun o => (Below.refl _ _).alloc (Nat.le_refl _) _
  have HB := Lib.hid hb
  clear hb
  by_cases h1 : 1 ≤ e
  · by_cases h2 : e ≤ 65535
    · have e1 : (Rp.failsV id e fl).val = .agg #[.int .u8 7, .int .u32 (id : Int), .int .u16 e, .bool false, .int .u64 0, .int .u64 (fl : Int), .int .u64 0, .int .u64 0, .int .u64 0, .int .u64 0, .slice none 0 0, .slice none 0 0] := by
        unfold Rp.failsV
        rw [if_pos ⟨h1, h2⟩]
        unfold Rp.V.val Rp.V.cells
        dsimp only
        rw [Int.toNat_of_nonneg (by omega)]
        rfl
      rw [e1]
      have i1 : ¬ e < 1 := by omega
      have d2 : decide (e > 65535) = false := decide_eq_false (by omega)
      have d3 : decide (65535 < e) = false := decide_eq_false (by omega)
      have hw := u16_wrap e h1 h2
      clear e1 h1 h2
      go_enter Tryz.func32, Tryz.ntmps32
      go_wp2_with fail
      refine bodyPost_ret (v := .agg #[.int .u8 7, .int .u32 (id : Int), .int .u16 e, .bool false, .int .u64 0, .int .u64 (fl : Int), .int .u64 0, .int .u64 0, .int .u64 0, .int .u64 0, .slice none 0 0, .slice none 0 0]) ?_ rfl ⟨rfl, HB.out _⟩
      simp [results, Tryz.results32, go_sem]
    · have e1 : (Rp.failsV id e fl).val = .agg #[.int .u8 7, .int .u32 (id : Int), .int .u16 2, .bool false, .int .u64 0, .int .u64 (fl : Int), .int .u64 0, .int .u64 0, .int .u64 0, .int .u64 0, .slice none 0 0, .slice none 0 0] := by
        unfold Rp.failsV
        rw [if_neg (fun h => h2 h.2)]
        rfl
      rw [e1]
      have i1 : ¬ e < 1 := by omega
      have d2 : decide (e > 65535) = true := decide_eq_true (by omega)
      have d3 : decide (65535 < e) = true := decide_eq_true (by omega)
      clear e1 h1 h2
      go_enter Tryz.func32, Tryz.ntmps32
      go_wp2_with fail
      refine bodyPost_ret (v := .agg #[.int .u8 7, .int .u32 (id : Int), .int .u16 2, .bool false, .int .u64 0, .int .u64 (fl : Int), .int .u64 0, .int .u64 0, .int .u64 0, .int .u64 0, .slice none 0 0, .slice none 0 0]) ?_ rfl ⟨rfl, HB.out _⟩
      simp [results, Tryz.results32, go_sem]
  · have e1 : (Rp.failsV id e fl).val = .agg #[.int .u8 7, .int .u32 (id : Int), .int .u16 2, .bool false, .int .u64 0, .int .u64 (fl : Int), .int .u64 0, .int .u64 0, .int .u64 0, .int .u64 0, .slice none 0 0, .slice none 0 0] := by
      unfold Rp.failsV
      rw [if_neg (fun h => h1 h.1)]
      rfl
    rw [e1]
    have i1 : e < 1 := by omega
    clear e1 h1
    go_enter Tryz.func32, Tryz.ntmps32
    go_wp2_with fail
    refine bodyPost_ret (v := .agg #[.int .u8 7, .int .u32 (id : Int), .int .u16 2, .bool false, .int .u64 0, .int .u64 (fl : Int), .int .u64 0, .int .u64 0, .int .u64 0, .int .u64 0, .slice none 0 0, .slice none 0 0]) ?_ rfl ⟨rfl, HB.out _⟩
    simp [results, Tryz.results32, go_sem]
set_option maxRecDepth 100000 in
set_option maxHeartbeats 1000000 in
theorem refFails8_any (id : Nat) (e : Int) (fl : Nat) (w : World) : Calls Tryz.prog 33 #[.int .u32 (id : Int), .int .i64 e, .int .u64 (fl : Int)] w fun e' w' => e' = .returned (Rp.failsV id e fl).val ∧ Below w.heap.size w w' := by
  have hb : ∀ (o : Obj), Below w.heap.size w (w.alloc o) := fun o => (Below.refl _ _).alloc (Nat.le_refl _) _
  have HB := Lib.hid hb
  clear hb
  by_cases h1 : 1 ≤ e
  · by_cases h2 : e ≤ 65535
    · have e1 : (Rp.failsV id e fl).val = .agg #[.int .u8 7, .int .u32 (id : Int), .int .u16 e, .bool false, .int .u64 0, .int .u64 (fl : Int), .int .u64 0, .int .u64 0, .int .u64 0, .int .u64 0, .slice none 0 0, .slice none 0 0] := by
        unfold Rp.failsV
        rw [if_pos ⟨h1, h2⟩]
        unfold Rp.V.val Rp.V.cells
        dsimp only
        rw [Int.toNat_of_nonneg (by omega)]
        rfl
      rw [e1]
      have d2 : decide (e ≤ 65535) = true := decide_eq_true h2
      have hw := u16_wrap e h1 h2
      clear e1 h2
      go_enter Tryz.func33, Tryz.ntmps33
      go_wp2_with fail
      refine bodyPost_ret (v := .agg #[.int .u8 7, .int .u32 (id : Int), .int .u16 e, .bool false, .int .u64 0, .int .u64 (fl : Int), .int .u64 0, .int .u64 0, .int .u64 0, .int .u64 0, .slice none 0 0, .slice none 0 0]) ?_ rfl ⟨rfl, HB.out _⟩
      simp [results, Tryz.results33, go_sem]
    · have e1 : (Rp.failsV id e fl).val = .agg #[.int .u8 7, .int .u32 (id : Int), .int .u16 2, .bool false, .int .u64 0, .int .u64 (fl : Int), .int .u64 0, .int .u64 0, .int .u64 0, .int .u64 0, .slice none 0 0, .slice none 0 0] := by
        unfold Rp.failsV
        rw [if_neg (fun h => h2 h.2)]
        rfl
      rw [e1]
      have d2 : decide (e ≤ 65535) = false := decide_eq_false h2
      clear e1 h2
      go_enter Tryz.func33, Tryz.ntmps33
      go_wp2_with fail
      refine bodyPost_ret (v := .agg #[.int .u8 7, .int .u32 (id : Int), .int .u16 2, .bool false, .int .u64 0, .int .u64 (fl : Int), .int .u64 0, .int .u64 0, .int .u64 0, .int .u64 0, .slice none 0 0, .slice none 0 0]) ?_ rfl ⟨rfl, HB.out _⟩
      simp [results, Tryz.results33, go_sem]
  · have e1 : (Rp.failsV id e fl).val = .agg #[.int .u8 7, .int .u32 (id : Int), .int .u16 2, .bool false, .int .u64 0, .int .u64 (fl : Int), .int .u64 0, .int .u64 0, .int .u64 0, .int .u64 0, .slice none 0 0, .slice none 0 0] := by
      unfold Rp.failsV
      rw [if_neg (fun h => h1 h.1)]
      rfl
    rw [e1]
    clear e1
    go_enter Tryz.func33, Tryz.ntmps33
    go_wp2_with fail
    refine bodyPost_ret (v := .agg #[.int .u8 7, .int .u32 (id : Int), .int .u16 2, .bool false, .int .u64 0, .int .u64 (fl : Int), .int .u64 0, .int .u64 0, .int .u64 0, .int .u64 0, .slice none 0 0, .slice none 0 0]) ?_ rfl ⟨rfl, HB.out _⟩
    simp [results, Tryz.results33, go_sem]
def LawP (w : World) (e : Ending) (w' : World) : Prop := e = .returned (.bool true) ∧ Below w.heap.size w w'
theorem put8_let {x : Rp.V} {bs : List Nat} (hr : x.right [] [] = true) (hb : x.bytes [] [] = bs) (ok : x.ok) (hn : x.n = 0) (hm : x.m = 0) (w : World) : Calls Tryz.prog 16 #[x.val] w (PutR w bs 0) := by
  have h := pPut8_any x [] [] 0 w ⟨by rw [hn]; exact RowsIn.nil, by rw [hm]; exact PansIn.nil⟩ (Nat.zero_le _) ok (by omega) (by omega)
  have e1 : Rp.putB x [] [] = bs := by unfold Rp.putB; rw [hr]; exact hb
  have e2 : Rp.putE x [] [] = 0 := by unfold Rp.putE; rw [hr]; rfl
  rw [e1, e2] at h
  exact h
theorem conv_own8 {w : World} {B n c : Nat} {A : Option Addr} {l : List Nat} {s : ByteArray} (h : w.ownsRow B 5 1 (.slice A n c) n (u8s l)) (hl : ∀ x ∈ l, x < 256) (hs : textOf l = s) : ∀ W : World, Below w.heap.size w W → (convert 33 9 (.slice A n c)).run Tryz.prog W = .ok (.string s) W :=
  fun _ hW => hs ▸ (conv_bytes ((Bytes.of_own h hl).below hW (Nat.le_refl _))).2.2
theorem wk81 (W : World) : Calls Tryz.prog 16 #[.agg #[.int .u8 6, .int .u32 7, .int .u16 0, .bool false, .int .u64 0, .int .u64 0, .int .u64 0, .int .u64 0, .int .u64 0, .int .u64 0, .slice none 0 0, .slice none 0 0]] W (PutR W [6, 0, 0, 0, 7] 0) :=
  put8_let (x := ⟨6, 7, 0, false, 0, 0, 0, 0, 0, 0, none, 0, 0, none, 0, 0⟩) (by decide +kernel) (by decide +kernel) (by unfold Rp.V.ok; decide) rfl rfl W
theorem wk82 (W : World) : Calls Tryz.prog 16 #[.agg #[.int .u8 7, .int .u32 1, .int .u16 260, .bool false, .int .u64 0, .int .u64 3, .int .u64 0, .int .u64 0, .int .u64 0, .int .u64 0, .slice none 0 0, .slice none 0 0]] W (PutR W [7, 0, 0, 0, 1, 1, 4, 0, 0, 0, 0, 0, 0, 0, 3] 0) :=
  put8_let (x := ⟨7, 1, 260, false, 0, 3, 0, 0, 0, 0, none, 0, 0, none, 0, 0⟩) (by decide +kernel) (by decide +kernel) (by unfold Rp.V.ok; decide) rfl rfl W
set_option maxRecDepth 100000 in
set_option maxHeartbeats 2000000 in
theorem works8_any (w : World) : Calls Tryz.prog 14 #[] w (LawP w) := by
  go_enter Tryz.func14, Tryz.ntmps14
  go_wp2_with fail
  refine (wk81 _).mono ?_
  rintro e w1 ⟨A1, c1, rfl, o1, b1⟩
  have C1 := Lib.hid (show ∀ W : World, Below w1.heap.size w1 W → (convert 33 9 (.slice A1 5 c1)).run Tryz.prog W = .ok (.string ⟨#[6, 0, 0, 0, 7]⟩) W from conv_own8 o1 (by decide) rfl)
  have D1 := Lib.hid b1
  clear o1 b1
  go_wp2_with fail
  refine (pFails_any 1 260 3 _).mono ?_
  rintro e w2 ⟨rfl, b2⟩
  have F2 := Lib.hid b2
  clear b2
  go_wp2_with fail
  refine (wk82 _).mono ?_
  rintro e w3 ⟨A3, c3, rfl, o3, b3⟩
  have F3 := Lib.hid (below_next F2.out b3)
  have k1 := C1.out _ F3.out
  have k3 := (show ∀ W : World, Below w3.heap.size w3 W → (convert 33 9 (.slice A3 15 c3)).run Tryz.prog W = .ok (.string ⟨#[7, 0, 0, 0, 1, 1, 4, 0, 0, 0, 0, 0, 0, 0, 3]⟩) W from conv_own8 o3 (by decide) rfl) _ (Below.refl _ _)
  have D3 := Lib.hid (below_next D1.out F3.out)
  clear o3 b3
  go_wp2_with fail
  go_ret
  exact ⟨rfl, D3.out⟩
end Go.Proofs.YtognlgklepgemaaGreat
