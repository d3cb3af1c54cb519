/- Layer 6, the program: an operation packed. -/
import Derived.Test.YtbcdacfmhjgfiaaEvW
namespace Go.Proofs.Ytbcdacfmhjgfiaa
open Go.ChangeShapes Go.WideShapes Go.ChangeAt Go.RowKit

theorem enc_lt_one (s : ByteArray) (t v : Int) : ∀ x ∈ Pk.tx (nums s) ++ (Pk.be 8 (Ev.u64 t) ++ Pk.be 8 (Ev.u64 v)), x < 256 := by
  intro x hx
  rcases List.mem_append.1 hx with hx | hx
  · exact Pk.tx_lt _ (nums_lt s) x hx
  · rcases List.mem_append.1 hx with hx | hx
    · exact Pk.be_lt 8 _ x hx
    · exact Pk.be_lt 8 _ x hx
set_option maxRecDepth 100000 in
set_option maxHeartbeats 4000000 in
theorem pPut6_any (o : Evo) (w : World) : Calls Try.prog 13 #[.agg #[.int .u8 (o.k : Int), .string o.s, .int .i64 o.t, .int .i64 o.v]] w (PutB w (Ev.bytes o) (Ev.right o)) := by
  have S0 := Lib.hid ((Held.start w).new #[.int .u8 (o.k : Int), .string o.s, .int .i64 o.t, .int .i64 o.v] 26)
  go_enter Try.func13, Try.ntmps13
  go_wp2_with fail
  refine (pRight6_any o _).mono ?_
  rintro e w1 ⟨rfl, b1⟩
  have S1 := Lib.hid (S0.out.step b1)
  have hz1 : w.heap.size < w1.heap.size := by have := b1.size; simp at this; omega
  clear b1 S0
  by_cases hr : Ev.right o = 0
  · have hb : Ev.bytes o = Ev.enc o := if_pos hr
    have hz := Ev.right_zero hr
    rw [hr]
    obtain ⟨k, s, t, v⟩ := o
    have HRB := Lib.hid (And.intro hb hr)
    clear hr hb
    dsimp only at S1 hz ⊢
    have k1 := S1.out.at_ (List.mem_cons_self ..)
    obtain ⟨⟨c0, c1, c2, c3, -⟩, -⟩ := cells9 k1
    simp at c0 c1 c2 c3
    clear k1
    rcases hz.1 with ⟨rfl, h1, h2⟩ | ⟨rfl, h1, h2⟩
    all_goals clear hz
    · have HX := Lib.hid (And.intro (show ([Pk.be 1 1, Pk.tx (nums s) ++ (Pk.be 8 (Ev.u64 t) ++ Pk.be 8 (Ev.u64 v))] : List (List Nat)).flatten = Ev.enc ⟨1, s, t, v⟩ by simp [Pk.be, Ev.enc_one]) (And.intro (show (Ev.enc ⟨1, s, t, v⟩).length = (s.size + 18) + 1 by rw [Ev.enc_len_one]) (Pk.tx_lt _ (nums_lt s))))
      rw [show ((1 : Nat) : Int) = 1 from rfl] at S1 c0 ⊢
      go_wp2_with fail
      refine (kind_one _).mono ?_
      rintro e w2 ⟨rfl, b2⟩
      have S2 := Lib.hid ((S1.out.step b2).new #[fnV 35, fnV 36, fnV 37] 60)
      have hz2 : w.heap.size < w2.heap.size := Nat.lt_of_lt_of_le hz1 b2.size
      clear b2 c0 c1 c2 c3
      go_upto_region 5 with (fail)
      obtain ⟨W2, hW⟩ : ∃ W, w2.alloc (.cells #[fnV 35, fnV 36, fnV 37] 60) = W := ⟨_, rfl⟩
      rw [hW] at S2 ⊢
      clear hW
      have P : Hid (∀ W, Below W2.heap.size W2 W → (W.cell? ⟨w.heap.size, 0, none⟩ = some (.int .u8 1) ∧ W.cell? ⟨w.heap.size, 1, none⟩ = some (.string s) ∧ W.cell? ⟨w.heap.size, 2, none⟩ = some (.int .i64 t) ∧ W.cell? ⟨w.heap.size, 3, none⟩ = some (.int .i64 v)) ∧ W.cell? ⟨w2.heap.size, 1, none⟩ = some (fnV 36)) := Lib.hid fun W hW => by
        have hk := (S2.out.step hW).at_ (List.mem_cons_of_mem _ (List.mem_cons_self ..))
        have hk2 := (S2.out.step hW).at_ (List.mem_cons_self ..)
        exact ⟨⟨hk.cell 0, hk.cell 1, hk.cell 2, hk.cell 3⟩, hk2.cell 1⟩
      have E0 : Hid (Below W2.heap.size W2 W2.drew) := Lib.hid (Below.refl _ _).drew
      go_wp2_with fail
      go_region_held3 (fun W => (W.cell? ⟨w.heap.size, 0, none⟩ = some (.int .u8 1) ∧ W.cell? ⟨w.heap.size, 1, none⟩ = some (.string s) ∧ W.cell? ⟨w.heap.size, 2, none⟩ = some (.int .i64 t) ∧ W.cell? ⟨w.heap.size, 3, none⟩ = some (.int .i64 v)) ∧ W.cell? ⟨w2.heap.size, 1, none⟩ = some (fnV 36)) (first | with_reducible exact P.out _ E0.out | with_reducible exact P.out _ E1.out | with_reducible exact P.out _ E2.out | with_reducible exact P.out _ E3.out | (refine P.out _ ?_; (repeat' first | (with_reducible exact E2.out) | (with_reducible refine Below.drew ?_) | (with_reducible refine Below.alloc ?_ ?_ _) | exact E2.out.size)) | fail) (first
        | (go_at_call 26; (with_reducible refine (put8_any 1 1 _ rfl (by omega)).mono ?_); rintro e V1 ⟨A5, c5, rfl, o5, b5⟩; have E1 := Lib.hid (below_next E0.out b5); have O5 := Lib.hid o5; clear b5 o5)
        | (go_at_call 36; (with_reducible refine (putEvent_any 1 s t v _ (by omega)).mono ?_); rintro e V2 ⟨A6, c6, rfl, o6, b6⟩; have E2 := Lib.hid (below_next E1.out b6); have B2 := Lib.hid b6; have O6 := Lib.hid o6; clear b6 o6)
        | (go_at_call 24; (with_reducible refine (join_as HX.out.1 HX.out.2.1 (by omega) (rows_two (own_bytes O5.out (Pk.be_lt 1 _) B2.out) (Bytes.of_own O6.out (enc_lt_one s t v)) (Nat.le_refl _) (by omega) (by omega)) (by simp) (by omega)).mono ?_); rintro e V3 ⟨A7, c7, rfl, o7, b7⟩; have E3 := Lib.hid (E2.out.trans (((Below.refl V2.heap.size V2).alloc (Nat.le_refl _) _).trans (b7.mono (by simp)) |>.mono E2.out.size)); have O7 := Lib.hid o7; clear b7 o7))
      go_wp2_with fail
      go_ret2
      have z2 := E2.out.size
      have zz := S2.out.1.size
      unfold PutB
      rw [HRB.out.1, HRB.out.2, HX.out.2.1]
      exact ⟨A7, c7, rfl, own_lower O7.out (by simp; omega), S2.out.1.trans (E3.out.mono S2.out.1.size)⟩
    · clear h2
      have HX := Lib.hid (And.intro (show ([Pk.be 1 2, Pk.be 8 (Ev.u64 t)] : List (List Nat)).flatten = Ev.enc ⟨2, s, t, v⟩ by simp [Pk.be, Ev.enc]) (And.intro (show (Ev.enc ⟨2, s, t, v⟩).length = 8 + 1 by rfl) trivial))
      rw [show ((2 : Nat) : Int) = 2 from rfl] at S1 c0 ⊢
      go_wp2_with fail
      refine (kind_two _).mono ?_
      rintro e w2 ⟨rfl, b2⟩
      have S2 := Lib.hid ((S1.out.step b2).new #[fnV 38, fnV 39, fnV 40] 60)
      have hz2 : w.heap.size < w2.heap.size := Nat.lt_of_lt_of_le hz1 b2.size
      clear b2 c0 c1 c2 c3
      go_upto_region 5 with (fail)
      obtain ⟨W2, hW⟩ : ∃ W, w2.alloc (.cells #[fnV 38, fnV 39, fnV 40] 60) = W := ⟨_, rfl⟩
      rw [hW] at S2 ⊢
      clear hW
      have P : Hid (∀ W, Below W2.heap.size W2 W → (W.cell? ⟨w.heap.size, 0, none⟩ = some (.int .u8 2) ∧ W.cell? ⟨w.heap.size, 1, none⟩ = some (.string s) ∧ W.cell? ⟨w.heap.size, 2, none⟩ = some (.int .i64 t) ∧ W.cell? ⟨w.heap.size, 3, none⟩ = some (.int .i64 v)) ∧ W.cell? ⟨w2.heap.size, 1, none⟩ = some (fnV 39)) := Lib.hid fun W hW => by
        have hk := (S2.out.step hW).at_ (List.mem_cons_of_mem _ (List.mem_cons_self ..))
        have hk2 := (S2.out.step hW).at_ (List.mem_cons_self ..)
        exact ⟨⟨hk.cell 0, hk.cell 1, hk.cell 2, hk.cell 3⟩, hk2.cell 1⟩
      have E0 : Hid (Below W2.heap.size W2 W2.drew) := Lib.hid (Below.refl _ _).drew
      go_wp2_with fail
      go_region_held3 (fun W => (W.cell? ⟨w.heap.size, 0, none⟩ = some (.int .u8 2) ∧ W.cell? ⟨w.heap.size, 1, none⟩ = some (.string s) ∧ W.cell? ⟨w.heap.size, 2, none⟩ = some (.int .i64 t) ∧ W.cell? ⟨w.heap.size, 3, none⟩ = some (.int .i64 v)) ∧ W.cell? ⟨w2.heap.size, 1, none⟩ = some (fnV 39)) (first | with_reducible exact P.out _ E0.out | with_reducible exact P.out _ E1.out | with_reducible exact P.out _ E2.out | with_reducible exact P.out _ E3.out | (refine P.out _ ?_; (repeat' first | (with_reducible exact E2.out) | (with_reducible refine Below.drew ?_) | (with_reducible refine Below.alloc ?_ ?_ _) | exact E2.out.size)) | fail) (first
        | (go_at_call 26; (with_reducible refine (put8_any 2 2 _ rfl (by omega)).mono ?_); rintro e V1 ⟨A5, c5, rfl, o5, b5⟩; have E1 := Lib.hid (below_next E0.out b5); have O5 := Lib.hid o5; clear b5 o5)
        | (go_at_call 39; (with_reducible refine (putMark_any 2 s t v _ ).mono ?_); rintro e V2 ⟨A6, c6, rfl, o6, b6⟩; have E2 := Lib.hid (below_next E1.out b6); have B2 := Lib.hid b6; have O6 := Lib.hid o6; clear b6 o6)
        | (go_at_call 24; (with_reducible refine (join_as HX.out.1 HX.out.2.1 (by omega) (rows_two (own_bytes O5.out (Pk.be_lt 1 _) B2.out) (Bytes.of_own O6.out (Pk.be_lt 8 _)) (Nat.le_refl _) (by omega) (by omega)) (by simp) (by omega)).mono ?_); rintro e V3 ⟨A7, c7, rfl, o7, b7⟩; have E3 := Lib.hid (E2.out.trans (((Below.refl V2.heap.size V2).alloc (Nat.le_refl _) _).trans (b7.mono (by simp)) |>.mono E2.out.size)); have O7 := Lib.hid o7; clear b7 o7))
      go_wp2_with fail
      go_ret2
      have z2 := E2.out.size
      have zz := S2.out.1.size
      unfold PutB
      rw [HRB.out.1, HRB.out.2, HX.out.2.1]
      exact ⟨A7, c7, rfl, own_lower O7.out (by simp; omega), S2.out.1.trans (E3.out.mono S2.out.1.size)⟩
  · have hb : Ev.bytes o = [] := if_neg hr
    have HB := Lib.hid hb
    have i3 : (Ev.right o != 0) = true := by rw [bne_iff_ne]; exact hr
    have i4 : (Ev.right o == 0) = false := by rw [beq_eq_false_iff_ne]; exact hr
    clear hb
    go_wp2_with fail
    go_ret2
    unfold PutB
    rw [HB.out]
    exact ⟨none, 0, rfl, own_nil _ _ _ _, S1.out.1⟩
end Go.Proofs.Ytbcdacfmhjgfiaa
