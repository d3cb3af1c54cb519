/- The chapter's examples of layer 2. -/
import Derived.Test.YtadcjllfabihbaaPackE
namespace Go.Proofs.Ytadcjllfabihbaa
open Go.ChangeShapes Go.WideShapes Go.ChangeAt Go.RowKit

theorem bytes_lit (w : World) (t : TypeId) (n : Nat) (l : List Nat) (cs : Array Value) (hcs : cs = (u8s l).toArray) (hl : ∀ x ∈ l, x < 256) (hn : l.length = n) : Bytes (w.alloc (.cells cs t)) (w.heap.size + 1) (some ⟨w.heap.size, 0, none⟩) n l := by
  subst hcs
  refine ⟨hn, hl, fun _ => ⟨w.heap.size, 0, rfl, by omega, fun i hi => ?_⟩⟩
  rw [Nat.zero_add, (Blk.new w t _).cell i, ← u8s_at (by omega)]
  simp
theorem conv_lit {W : World} {B n c : Nat} {A : Option Addr} {l : List Nat} (h : Bytes W B A n l) (s : ByteArray) (hs : textOf l = s) : (convert 25 9 (.slice A n c)).run Try.prog W = .ok (.string s) W := hs ▸ (conv_bytes h).2.2
theorem lit_123 : (#[.int .u8 1, .int .u8 2, .int .u8 3] : Array Value) = (u8s [1, 2, 3]).toArray := rfl
theorem lit_059 : (#[.int .u8 0, .int .u8 5, .int .u8 97] : Array Value) = (u8s [0, 5, 97]).toArray := rfl
theorem lit_7 : (#[.int .u8 7] : Array Value) = (u8s [7]).toArray := rfl
theorem t1 : textOf (Pk.be 2 258) = ⟨#[1, 2]⟩ := by decide +kernel
theorem t2 : textOf (Pk.be 8 18446744073709551614) = ⟨#[255, 255, 255, 255, 255, 255, 255, 254]⟩ := by decide +kernel
theorem t3 : textOf (Pk.tx (nums ⟨#[97, 98]⟩)) = ⟨#[0, 2, 97, 98]⟩ := by decide +kernel
/-- Below a world, through a reader's call. -/
theorem below_rd {w w1 w2 : World} {g : Nat} (h : Below w.heap.size w w1) (hg : w1.grownBy w2 (some g)) (hB : w.heap.size ≤ g) : Below w.heap.size w w2 :=
  h.grown hg h.size (fun k e => by injection e with e; omega)

set_option maxRecDepth 100000 in
set_option maxHeartbeats 2000000 in
theorem works_any (w : World) : Calls Try.prog 7 #[] w fun e w' => e = .returned (.bool true) ∧ Below w.heap.size w w' := by
  go_enter Try.func7, Try.ntmps7
  go_wp2_with fail
  refine (putText_any ⟨#[97, 98]⟩ w (by decide)).mono ?_
  rintro e w1 ⟨At, ct, rfl, ht, b1⟩
  have ft : Bytes w1 w1.heap.size At 4 (Pk.tx (nums ⟨#[97, 98]⟩)) := Bytes.of_own ht (Pk.tx_lt _ (nums_lt _))
  clear ht
  go_wp2_with fail
  refine (of_any 3 3 (w1.heap.size + 1) _ [1, 2, 3] _ (bytes_lit w1 _ 3 _ _ lit_123 (by decide) rfl) (by simp) (by omega)).mono ?_
  rintro e w2 ⟨g2, rfl, r2, l2, b2⟩
  have d2 : Below w.heap.size w w2 := below_one b1 b2
  have e2 : Below w1.heap.size w1 w2 := below_one (Below.refl _ _) b2
  have z1 := b1.size
  simp at l2 r2
  clear b2
  go_wp2_with fail
  refine (of_any 3 3 (w2.heap.size + 1) _ [1, 2, 3] _ (bytes_lit w2 _ 3 _ _ lit_123 (by decide) rfl) (by simp) (by omega)).mono ?_
  rintro e w3 ⟨g3, rfl, r3, l3, b3⟩
  have d3 : Below w.heap.size w w3 := below_one d2 b3
  have e3 : Below w2.heap.size w2 w3 := below_one (Below.refl _ _) b3
  have z2 := d2.size
  simp at l3 r3
  have y2 := r2.here
  have r2' := r2.below e3 y2
  clear b3 r2
  go_wp2_with fail
  refine (of_any 3 3 (w3.heap.size + 1) _ [0, 5, 97] _ (bytes_lit w3 _ 3 _ _ lit_059 (by decide) rfl) (by simp) (by omega)).mono ?_
  rintro e w4 ⟨g4, rfl, r4, l4, b4⟩
  have d4 : Below w.heap.size w w4 := below_one d3 b4
  have e4 : Below w3.heap.size w3 w4 := below_one (Below.refl _ _) b4
  have z3 := d3.size
  simp at l4 r4
  have y3 := r3.here
  have v2 := e3.size
  have r2 := r2'.below e4 (by omega)
  have r3' := r3.below e4 y3
  clear b4 r2' r3
  go_wp2_with fail
  refine (of_any 1 1 (w4.heap.size + 1) _ [7] _ (bytes_lit w4 _ 1 _ _ lit_7 (by decide) rfl) (by simp) (by omega)).mono ?_
  rintro e w5 ⟨g5, rfl, r5, l5, b5⟩
  have d5 : Below w.heap.size w w5 := below_one d4 b5
  have e5 : Below w4.heap.size w4 w5 := below_one (Below.refl _ _) b5
  have z4 := d4.size
  simp at l5 r5
  have y4 := r4.here
  have v3 := e4.size
  have q2 := r2.below e5 (by omega)
  have q3 := r3'.below e5 (by omega)
  have q4 := r4.below e5 y4
  have q5 := r5
  have ft5 := ((ft.below e2 (Nat.le_refl _)).below e3 (by have := e2.size; omega)).below e4 (by have := e2.size; omega)
  have ft6 := ft5.below e5 (by have := e2.size; omega)
  have v4 := e5.size
  have y5 := r5.here
  have m1 := e2.size
  clear b5 r2 r3' r4 r5 ft ft5 e2 e3 e4 e5 d2 d3 d4
  go_wp2_with fail
  refine (put16_any 258 258 w5 rfl (by omega)).mono ?_
  rintro e w6 ⟨A6, c6, rfl, ho6, b6⟩
  have hcv6 := conv_lit (c := c6) (Bytes.of_own ho6 (Pk.be_lt 2 258)) _ t1
  have d6 := below_next d5 b6
  have p2 := q2.below b6 (by omega)
  have p3 := q3.below b6 (by omega)
  have p4 := q4.below b6 (by omega)
  have p5 := q5.below b6 (by omega)
  have ft7 := ft6.below b6 (by omega)
  have v5 := b6.size
  clear q2 q3 q4 q5 ho6 b6 ft6 d5
  go_wp2_with fail
  clear hcv6
  refine (putInt_any (-2) 18446744073709551614 w6 (by decide) (by omega)).mono ?_
  rintro e w7 ⟨A7, c7, rfl, ho7, b7⟩
  have hcv7 := conv_lit (c := c7) (Bytes.of_own ho7 (Pk.be_lt 8 _)) _ t2
  have d7 := below_next d6 b7
  have q2 := p2.below b7 (by omega)
  have q3 := p3.below b7 (by omega)
  have q4 := p4.below b7 (by omega)
  have q5 := p5.below b7 (by omega)
  have ft8 := ft7.below b7 (by omega)
  have hcv8 := conv_lit (c := ct) ft8 _ t3
  have v6 := b7.size
  clear p2 p3 p4 p5 ho7 b7 ft7 d6 ft8
  go_wp2_with fail
  clear hcv7 hcv8
  refine (u8_any _ _ _ _ _ q2).mono ?_
  rintro e w8 ⟨rfl, p2, h8⟩
  rw [show Pk.num (Pk.taken false [1, 2, 3] 1) = 1 from by decide]
  have p3 := q3.kept h8 (by omega) (by omega)
  have p4 := q4.kept h8 (by omega) (by omega)
  have p5 := q5.kept h8 (by omega) (by omega)
  have d8 := below_rd d7 h8 (by omega)
  clear q2 q3 q4 q5 d7 h8
  go_wp2_with fail
  refine (u16_any _ _ _ _ _ p2).mono ?_
  rintro e w9 ⟨rfl, q2, h9⟩
  rw [show Pk.num (Pk.taken (Pk.fails false [1, 2, 3] 1) (Pk.left false [1, 2, 3] 1) 2) = 515 from by decide]
  have q3 := p3.kept h9 (by omega) (by omega)
  have q4 := p4.kept h9 (by omega) (by omega)
  have q5 := p5.kept h9 (by omega) (by omega)
  have d9 := below_rd d8 h9 (by omega)
  clear p2 p3 p4 p5 d8 h9
  go_wp2_with fail
  refine (done_any _ _ _ _ _ q2).mono ?_
  rintro e w9' ⟨rfl, rfl⟩
  rw [show doneOf (Pk.fails (Pk.fails false [1, 2, 3] 1) (Pk.left false [1, 2, 3] 1) 2) (Pk.left (Pk.fails false [1, 2, 3] 1) (Pk.left false [1, 2, 3] 1) 2).length = 0 from by decide]
  go_wp2_with fail
  refine (u16_any _ _ _ _ _ q3).mono ?_
  rintro e w10 ⟨rfl, p3, h10⟩
  rw [show Pk.num (Pk.taken false [1, 2, 3] 2) = 258 from by decide]
  have p4 := q4.kept h10 (by omega) (by omega)
  have p5 := q5.kept h10 (by omega) (by omega)
  have d10 := below_rd d9 h10 (by omega)
  clear q2 q3 q4 q5 d9 h10
  go_wp2_with fail
  refine (u16_any _ _ _ _ _ p3).mono ?_
  rintro e w11 ⟨rfl, q3, h11⟩
  rw [show Pk.num (Pk.taken (Pk.fails false [1, 2, 3] 2) (Pk.left false [1, 2, 3] 2) 2) = 0 from by decide]
  have q4 := p4.kept h11 (by omega) (by omega)
  have q5 := p5.kept h11 (by omega) (by omega)
  have d11 := below_rd d10 h11 (by omega)
  clear p3 p4 p5 d10 h11
  go_wp2_with fail
  refine (err_any _ _ _ _ _ q3).mono ?_
  rintro e w11' ⟨rfl, rfl⟩
  rw [show errOf (Pk.fails (Pk.fails false [1, 2, 3] 2) (Pk.left false [1, 2, 3] 2) 2) = 20 from by decide]
  go_wp2_with fail
  refine (left_any _ _ _ _ _ q3).mono ?_
  rintro e w11' ⟨rfl, rfl⟩
  rw [show (Pk.left (Pk.fails false [1, 2, 3] 2) (Pk.left false [1, 2, 3] 2) 2).length = 1 from by decide]
  go_wp2_with fail
  refine (text_any _ _ _ _ _ q4).mono ?_
  rintro e w12 ⟨rfl, p4, h12⟩
  rw [show textOf (Pk.ttaken false [0, 5, 97]) = ⟨#[]⟩ from by decide +kernel]
  have p5 := q5.kept h12 (by omega) (by omega)
  have d12 := below_rd d11 h12 (by omega)
  clear q3 q4 q5 d11 h12
  go_wp2_with fail
  refine (left_any _ _ _ _ _ p4).mono ?_
  rintro e w12' ⟨rfl, rfl⟩
  rw [show (Pk.tleft false [0, 5, 97]).length = 3 from by decide]
  go_wp2_with fail
  refine (done_any _ _ _ _ _ p5).mono ?_
  rintro e w12' ⟨rfl, rfl⟩
  rw [show doneOf false [7].length = 21 from by decide]
  go_wp2_with fail
  go_ret
  exact ⟨rfl, d12⟩
end Go.Proofs.Ytadcjllfabihbaa
