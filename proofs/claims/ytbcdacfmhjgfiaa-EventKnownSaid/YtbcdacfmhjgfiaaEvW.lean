/- Layer 6, the program: operations packed. -/
import Derived.Test.YtbcdacfmhjgfiaaEvR
namespace Go.Proofs.Ytbcdacfmhjgfiaa
open Go.ChangeShapes Go.WideShapes Go.ChangeAt Go.RowKit

theorem rows_three {w : World} {B n1 n2 n3 c1 c2 c3 : Nat} {a1 a2 a3 : Option Addr} {l1 l2 l3 : List Nat} {t : TypeId} (h1 : Bytes w B a1 n1 l1) (h2 : Bytes w B a2 n2 l2) (h3 : Bytes w B a3 n3 l3) (hB : B ≤ w.heap.size) (m1 : n1 ≤ 9223372036854775807) (m2 : n2 ≤ 9223372036854775807) (m3 : n3 ≤ 9223372036854775807) :
    RowsOf (w.alloc (.cells #[.slice a1 n1 c1, .slice a2 n2 c2, .slice a3 n3 c3] t)) (w.heap.size + 1) (some ⟨w.heap.size, 0, none⟩) 3 [l1, l2, l3] := by
  have hk := Blk.new w t #[.slice a1 n1 c1, .slice a2 n2 c2, .slice a3 n3 c3]
  refine ⟨rfl, fun _ => ⟨w.heap.size, 0, rfl, by omega, fun i hi => ?_⟩⟩
  match i, hi with
  | 0, _ => exact ⟨a1, n1, c1, hk.cell 0, m1, (h1.alloc hB _).more (by omega)⟩
  | 1, _ => exact ⟨a2, n2, c2, hk.cell 1, m2, (h2.alloc hB _).more (by omega)⟩
  | 2, _ => exact ⟨a3, n3, c3, hk.cell 2, m3, (h3.alloc hB _).more (by omega)⟩
theorem own_bytes {w : World} {base n c : Nat} {A : Option Addr} {l : List Nat} {e : TypeId} (h : w.ownsRow base e 1 (.slice A n c) n (u8s l)) (hl : ∀ x ∈ l, x < 256) {w' : World} (hb : Below w.heap.size w w') : Bytes w' w'.heap.size A n l := ((Bytes.of_own h hl).below hb (Nat.le_refl _)).more hb.size
theorem join_as {n c B m : Nat} {A : Option Addr} {ls : List (List Nat)} {L : List Nat} {w : World} (hfl : ls.flatten = L) (hm : L.length = m) (hm1 : m ≤ 1000000) (hr : RowsOf w B A n ls) (hB : B ≤ w.heap.size) (hn : n ≤ 1000000) :
    Calls Try.prog 24 #[.slice A n c] w (OwnPost w m L) := by
  subst hfl
  subst hm
  exact join_any n c B A ls w hr hB hn hm1
set_option maxRecDepth 100000 in
set_option maxHeartbeats 2000000 in
theorem putEvent_any (k : Int) (s : ByteArray) (t v : Int) (w : World) (hs : s.size ≤ 1000) : Calls Try.prog 36 #[opV k s t v] w (OwnPost w (s.size + 18) (Pk.tx (nums s) ++ (Pk.be 8 (Ev.u64 t) ++ Pk.be 8 (Ev.u64 v)))) := by
  have S0 := Lib.hid ((Held.start w).new #[.int .u8 k, .string s, .int .i64 t, .int .i64 v] 26)
  go_enter Try.func36, Try.ntmps36
  go_wp2_with fail
  refine (putText_any s _ (by omega)).mono ?_
  rintro e w1 ⟨A1, c1, rfl, ho1, b1⟩
  have S1 := Lib.hid (S0.out.step b1)
  have HO1 := Lib.hid ho1
  have P : Hid (∀ W, Below w1.heap.size w1 W → W.cell? ⟨w.heap.size, 2, none⟩ = some (.int .i64 t) ∧ W.cell? ⟨w.heap.size, 3, none⟩ = some (.int .i64 v)) := Lib.hid fun W hW => by
    have hk := (S1.out.step hW).at_ (List.mem_cons_self ..)
    exact ⟨hk.cell 2, hk.cell 3⟩
  have E0 : Hid (Below w1.heap.size w1 w1.drew) := Lib.hid (Below.refl _ _).drew
  have HX := Lib.hid (And.intro (Pk.tx_lt _ (nums_lt s)) (And.intro (show [Pk.tx (nums s), Pk.be 8 (Ev.u64 t), Pk.be 8 (Ev.u64 v)].flatten = Pk.tx (nums s) ++ (Pk.be 8 (Ev.u64 t) ++ Pk.be 8 (Ev.u64 v)) by simp) (show (Pk.tx (nums s) ++ (Pk.be 8 (Ev.u64 t) ++ Pk.be 8 (Ev.u64 v))).length = s.size + 18 by simp [Pk.tx, Pk.be_len, nums_len]; omega)))
  clear ho1 b1
  go_wp2_with fail
  go_region_held3 (fun W => W.cell? ⟨w.heap.size, 2, none⟩ = some (.int .i64 t) ∧ W.cell? ⟨w.heap.size, 3, none⟩ = some (.int .i64 v)) (first | with_reducible exact P.out _ E0.out | with_reducible exact P.out _ E1.out | with_reducible exact P.out _ E2.out | with_reducible exact P.out _ E3.out | (refine P.out _ ?_; (repeat' first | (with_reducible exact E2.out) | (with_reducible refine Below.drew ?_) | (with_reducible refine Below.alloc ?_ ?_ _) | exact E2.out.size)) | fail) (first
    | (go_at_call 49; (with_reducible refine (putInt_any t (Ev.u64 t) _ (Ev.u64_is t) (Ev.u64_lt t)).mono ?_); rintro e V1 ⟨A5, c5, rfl, o5, b5⟩; have E1 := Lib.hid (below_next E0.out b5); have O5 := Lib.hid o5; clear b5 o5)
    | (go_at_call 49; (with_reducible refine (putInt_any v (Ev.u64 v) _ (Ev.u64_is v) (Ev.u64_lt v)).mono ?_); rintro e V2 ⟨A6, c6, rfl, o6, b6⟩; have E2 := Lib.hid (below_next E1.out b6); have B2 := Lib.hid b6; have O6 := Lib.hid o6; clear b6 o6)
    | (go_at_call 24; (with_reducible refine (join_as HX.out.2.1 HX.out.2.2 (by omega) (rows_three (own_bytes HO1.out HX.out.1 E2.out) (own_bytes O5.out (Pk.be_lt 8 _) B2.out) (Bytes.of_own O6.out (Pk.be_lt 8 _)) (Nat.le_refl _) (by omega) (by omega) (by omega)) (by simp) (by omega)).mono ?_); rintro e V3 ⟨A7, c7, rfl, o7, b7⟩; have E3 := Lib.hid (E2.out.trans (((Below.refl V2.heap.size V2).alloc (Nat.le_refl _) _).trans (b7.mono (by simp)) |>.mono E2.out.size)); have O7 := Lib.hid o7; clear b7 o7))
  go_wp2_with fail
  go_ret
  have o7 := O7.out
  have z2 := E2.out.size
  exact ⟨A7, c7, rfl, own_lower o7 (by have := S1.out.1.size; simp; omega), S1.out.1.trans (E3.out.mono S1.out.1.size)⟩
end Go.Proofs.Ytbcdacfmhjgfiaa
