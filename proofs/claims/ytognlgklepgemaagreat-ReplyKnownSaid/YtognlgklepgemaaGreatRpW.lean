/- Layer 8, the program: each part, packed. -/
import Derived.Test.YtognlgklepgemaaGreatRpQ
import Derived.Test.YtognlgklepgemaaGreatAg8
namespace Go.Proofs.YtognlgklepgemaaGreat
open Go.ChangeShapes Go.WideShapes Go.ChangeAt Go.RowKit

/-- A call that packs the chunk. -/
def PutP (w0 W : World) (P : Nat) (L : List (List Nat)) (e : Ending) (W' : World) : Prop := e = .returned (.tuple #[]) ∧ Putting w0 W' P L ∧ Stay W W'
theorem PutP.add {w0 W w1 W' : World} {P : Nat} {L : List (List Nat)} {e : Ending} (h : Stay W w1) (h2 : PutP w0 w1 P L e W') : PutP w0 W P L e W' := ⟨h2.1, h2.2.1, h.trans h2.2.2⟩
theorem add_put {w0 W w1 : World} {P m c : Nat} {a : Option Addr} {l : List Nat} {L : List (List Nat)} (h : Putting w0 W P L) (b : Below W.heap.size W w1) (ho : w1.ownsRow W.heap.size 5 1 (.slice a m c) m (u8s l)) (hm : m ≤ 1000000) (hL : L.length ≤ 1000000) :
    Calls Tryz.prog 36 #[.pointer (some ⟨P, 0, none⟩), .slice a m c] w1 (PutP w0 W P (L ++ [l])) :=
  (add_any w0 w1 P m c a l L (h.below b) (own_lower ho h.low.size) hm hL).mono fun _ _ hp => PutP.add (Stay.below b) hp
set_option maxRecDepth 100000 in
theorem put_code (w0 W : World) (P R i n : Nat) (L : List (List Nat)) (h : Putting w0 W P L) (hL : L.length ≤ 900000) (hc : W.cell? ⟨R, i, none⟩ = some (.int .u16 (n : Int))) (hn : n < 65536) :
    Calls Tryz.prog 102 #[.pointer (some ⟨P, 0, none⟩), .pointer (some ⟨R, i, none⟩)] W (PutP w0 W P (L ++ [Pk.be 2 n])) := by
  have H := Lib.hid h
  clear h
  go_enter Tryz.func102, Tryz.ntmps102
  go_wp2_with fail
  refine (put16_any _ n _ rfl hn).mono ?_
  rintro e w1 ⟨a, c, rfl, ho, b⟩
  have H1 := Lib.hid (add_put H.out b ho (by omega) (by omega))
  clear ho b
  go_wp2_with fail
  refine H1.out.mono ?_
  rintro e w2 hp
  obtain rfl := hp.1
  have HP := Lib.hid hp
  clear hp
  go_wp2_with fail
  go_end0
  exact HP.out
set_option maxRecDepth 100000 in
theorem put_number (w0 W : World) (P R i n : Nat) (L : List (List Nat)) (h : Putting w0 W P L) (hL : L.length ≤ 900000) (hc : W.cell? ⟨R, i, none⟩ = some (.int .u64 (n : Int))) (hn : n < 18446744073709551616) :
    Calls Tryz.prog 104 #[.pointer (some ⟨P, 0, none⟩), .pointer (some ⟨R, i, none⟩)] W (PutP w0 W P (L ++ [Pk.be 8 n])) := by
  have H := Lib.hid h
  clear h
  go_enter Tryz.func104, Tryz.ntmps104
  go_wp2_with fail
  refine (put64_any _ n _ rfl hn).mono ?_
  rintro e w1 ⟨a, c, rfl, ho, b⟩
  have H1 := Lib.hid (add_put H.out b ho (by omega) (by omega))
  clear ho b
  go_wp2_with fail
  refine H1.out.mono ?_
  rintro e w2 hp
  obtain rfl := hp.1
  have HP := Lib.hid hp
  clear hp
  go_wp2_with fail
  go_end0
  exact HP.out
set_option maxRecDepth 100000 in
theorem put_flag (w0 W : World) (P R i : Nat) (f : Bool) (L : List (List Nat)) (h : Putting w0 W P L) (hL : L.length ≤ 900000) (hc : W.cell? ⟨R, i, none⟩ = some (.bool f)) :
    Calls Tryz.prog 103 #[.pointer (some ⟨P, 0, none⟩), .pointer (some ⟨R, i, none⟩)] W (PutP w0 W P (L ++ [Pk.be 1 (if f then 1 else 0)])) := by
  have H := Lib.hid h
  clear h
  cases f
  · go_enter Tryz.func103, Tryz.ntmps103
    go_wp2_with fail
    refine (put8_any 0 0 _ rfl (by omega)).mono ?_
    rintro e w1 ⟨a, c, rfl, ho, b⟩
    have H1 := Lib.hid (add_put H.out b ho (by omega) (by omega))
    clear ho b
    go_wp2_with fail
    refine H1.out.mono ?_
    rintro e w2 hp
    obtain rfl := hp.1
    have HP := Lib.hid hp
    clear hp
    go_wp2_with fail
    go_end0
    exact HP.out
  · go_enter Tryz.func103, Tryz.ntmps103
    go_wp2_with fail
    refine (put8_any 1 1 _ rfl (by omega)).mono ?_
    rintro e w1 ⟨a, c, rfl, ho, b⟩
    have H1 := Lib.hid (add_put H.out b ho (by omega) (by omega))
    clear ho b
    go_wp2_with fail
    refine H1.out.mono ?_
    rintro e w2 hp
    obtain rfl := hp.1
    have HP := Lib.hid hp
    clear hp
    go_wp2_with fail
    go_end0
    exact HP.out
/-- What a pane, a row are packed as. -/
def Rp.cpane (p : Pn) : List (List Nat) := [Pk.tx (nums p.k), Pk.be 8 (Rp.u p.s), Pk.be 8 (Rp.u p.e)]
def Rp.cagg (a : Ag.A) : List (List Nat) := [Pk.be 8 (Rp.u a.c), Pk.be 8 (Rp.u a.s), Pk.be 8 (Rp.u a.lo), Pk.be 8 (Rp.u a.hi)]
def Rp.crow (r : Rw) : List (List Nat) := Rp.cpane r.p ++ Rp.cagg r.a
set_option maxRecDepth 100000 in
set_option maxHeartbeats 1000000 in
theorem put_pane (w0 W : World) (P : Nat) (p : Pn) (L : List (List Nat)) (h : Putting w0 W P L) (hL : L.length ≤ 900000) (hk : p.k.size ≤ 65535) :
    Calls Tryz.prog 110 #[.pointer (some ⟨P, 0, none⟩), .agg #[.string p.k, .int .i64 p.s, .int .i64 p.e]] W (PutP w0 W P (L ++ Rp.cpane p)) := by
  have b0 : Below W.heap.size W (W.alloc (.cells #[.string p.k, .int .i64 p.s, .int .i64 p.e] 45)) := (Below.refl _ _).alloc (Nat.le_refl _) _
  have K0 := Blk.new W 45 #[.string p.k, .int .i64 p.s, .int .i64 p.e]
  have H := Lib.hid (And.intro (h.below b0) (And.intro K0 (Stay.below b0)))
  clear h b0 K0
  obtain ⟨k, s, en⟩ := p
  dsimp only at *
  go_enter Tryz.func110, Tryz.ntmps110
  go_wp2_with fail
  refine (putText_any k _ hk).mono ?_
  rintro e w1 ⟨a, c, rfl, ho, b⟩
  have H1 := Lib.hid (add_put H.out.1 b ho (by omega) (by omega))
  clear ho b
  go_wp2_with fail
  refine H1.out.mono ?_
  rintro e w2 hp
  obtain rfl := hp.1
  have K2 := hp.2.2 _ _ _ (by decide) (by decide) H.out.2.1
  have c1 := K2.cell 1
  have HP := Lib.hid (And.intro hp.2 K2)
  clear hp K2
  go_wp2_with fail
  clear c1
  refine (putInt_any s (Rp.u s) _ (Rp.u_eq _) (Rp.u_lt _)).mono ?_
  rintro e w3 ⟨a, c, rfl, ho, b⟩
  have H3 := Lib.hid (add_put HP.out.1.1 b ho (by omega) (by simp; omega))
  clear ho b
  go_wp2_with fail
  refine H3.out.mono ?_
  rintro e w4 hp
  obtain rfl := hp.1
  have K4 := hp.2.2 _ _ _ (by decide) (by decide) HP.out.2
  have c2 := K4.cell 2
  have HP4 := Lib.hid hp.2
  clear hp K4
  go_wp2_with fail
  clear c2
  refine (putInt_any en (Rp.u en) _ (Rp.u_eq _) (Rp.u_lt _)).mono ?_
  rintro e w5 ⟨a, c, rfl, ho, b⟩
  have H5 := Lib.hid (add_put HP4.out.1 b ho (by omega) (by simp; omega))
  clear ho b
  go_wp2_with fail
  refine H5.out.mono ?_
  rintro e w6 hp
  obtain rfl := hp.1
  have HP6 := Lib.hid hp.2
  clear hp
  go_wp2_with fail
  go_end0
  refine ⟨rfl, ?_, ((H.out.2.2.trans HP.out.1.2).trans HP4.out.2).trans HP6.out.2⟩
  have := HP6.out.1
  simp only [List.append_assoc] at this
  exact this
end Go.Proofs.YtognlgklepgemaaGreat
